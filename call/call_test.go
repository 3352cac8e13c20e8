package call

import (
	"bytes"
	"math/rand"
	"reflect"
	"regexp"
	"slices"
	"strconv"
	"strings"
	"testing"

	"posthorn/api"
	"posthorn/dots"
	"posthorn/serve"
)

// What is said.
const (
	ehlo  = "EHLO h.org\r\n"
	helo  = "HELO h.org\r\n"
	mail  = "MAIL FROM:<a@b>\r\n"
	rcptO = "RCPT TO:<o@x>\r\n"
	rcptP = "RCPT TO:<p@x>\r\n"
	rcptQ = "RCPT TO:<q@x>\r\n"
	frame = "t\r\n..u\r\n.\r\n"
)

// What is replied.
const (
	hi    = "220 y\r\n"
	plain = "250 y\r\n"
	piped = "250-y\r\n250 PIPELINING\r\n"
	ok    = "250 ok\r\n"
	more  = "354 go\r\n"
	later = "450 later\r\n"
	no    = "550 no\r\n"
	bye   = "221 y\r\n"
)

// letter is a mail of a@b to o@x, p@x and q@x.
func letter() api.Mail {
	return api.Mail{From: "a@b", To: []string{"o@x", "p@x", "q@x"}, Data: []byte("t\r\n.u\r\n")}
}

// dialled is a call of a mail.
func dialled(t testing.TB, m api.Mail) *Client {
	t.Helper()
	c, e := New("h.org", m)
	if c == nil || e != api.OK {
		t.Fatalf("New(%+v): %v %v", m, c, e)
	}
	return c
}

// hears asks what a call says to replies.
func hears(t testing.TB, c *Client, replies, want string) {
	t.Helper()
	if got := c.Put([]byte(replies)); got != want {
		t.Fatalf("Put(%.300q): %q, not %q", replies, got, want)
	}
}

// fates are fates' numbers, one digit each.
func fates(c *Client) string {
	out := ""
	for _, f := range c.Fates() {
		out += strconv.Itoa(f)
	}
	return out
}

// stands asks what became of a call.
func stands(t testing.TB, c *Client, over bool, want string) {
	t.Helper()
	if got := fates(c); c.Over() != over || got != want {
		t.Fatalf("over %v, fates %s, not %v, %s", c.Over(), got, over, want)
	}
}

func TestExamples(t *testing.T) { // P17.2
	c := dialled(t, letter())
	hears(t, c, "220 x\r\n", ehlo)
	hears(t, c, "554 no\r\n", helo)
	stands(t, c, false, "000")
	if Open != 0 || Sent != 1 || Again != 2 || Failed != 3 {
		t.Error("the fates' numbers")
	}
}

func TestNew(t *testing.T) { // P17.1
	some := func(n int) []string {
		var out []string
		for i := range n {
			out = append(out, "p"+strconv.Itoa(i)+"@x")
		}
		return out
	}
	label := strings.Repeat("a", 63)
	wide := label + "." + label + "." + label + "." + label[:61]
	text := strings.Repeat(strings.Repeat("a", 62)+"\r\n", 1024)
	for _, c := range []struct {
		host, from string
		to         []string
		data       string
		want       api.Errno
	}{
		{"x", "a@b", some(1), "t\r\n", api.OK}, {"X.Org", "", some(1), "", api.OK}, {wide, "a@b", some(16), text, api.OK}, {"x", "a@" + wide, []string{"a@" + wide}, "\r\n", api.OK},
		{"x", "a@b", []string{"a@b"}, strings.Repeat("a", 998) + "\r\n", api.OK}, {"x", "a@b", some(1), "\xff\x00\r\n", api.OK},
		{"", "a@b", some(1), "", api.ErrArg}, {"x.", "a@b", some(1), "", api.ErrArg}, {"x y", "a@b", some(1), "", api.ErrArg}, {"-x", "a@b", some(1), "", api.ErrArg}, {"x\r\n", "a@b", some(1), "", api.ErrArg}, {wide + "a", "a@b", some(1), "", api.ErrArg}, {"a@x", "a@b", some(1), "", api.ErrArg}, {"é", "a@b", some(1), "", api.ErrArg},
		{"x", "a", some(1), "", api.ErrArg}, {"x", "A@b", some(1), "", api.ErrArg}, {"x", "a@B", some(1), "", api.ErrArg}, {"x", "<a@b>", some(1), "", api.ErrArg}, {"x", " ", some(1), "", api.ErrArg}, {"x", "N <a@b>", some(1), "", api.ErrArg}, {"x", "a@b>\r\nRSET", some(1), "", api.ErrArg},
		{"x", "a@b", nil, "", api.ErrArg}, {"x", "a@b", []string{}, "", api.ErrArg}, {"x", "a@b", some(17), "", api.ErrArg}, {"x", "a@b", []string{"o@x", "o@x"}, "", api.ErrArg}, {"x", "a@b", append(some(15), "p0@x"), "", api.ErrArg}, {"x", "a@b", []string{"o@x", "O@x"}, "", api.ErrArg}, {"x", "a@b", []string{""}, "", api.ErrArg}, {"x", "a@b", []string{"o@x", ""}, "", api.ErrArg}, {"x", "a@b", []string{"o"}, "", api.ErrArg}, {"x", "a@b", []string{"<o@x>"}, "", api.ErrArg},
		{"x", "a@b", some(1), "t", api.ErrArg}, {"x", "a@b", some(1), "t\n", api.ErrArg}, {"x", "a@b", some(1), "t\r", api.ErrArg}, {"x", "a@b", some(1), "\n\r\n", api.ErrArg}, {"x", "a@b", some(1), strings.Repeat("a", 999) + "\r\n", api.ErrArg}, {"x", "a@b", some(1), text + "\r\n", api.ErrArg}, {"x", "a@b", some(1), "a" + text, api.ErrArg},
	} {
		m := api.Mail{From: c.from, To: c.to, Data: []byte(c.data)}
		got, e := New(c.host, m)
		if e != c.want || (got == nil) != (e != api.OK) {
			t.Errorf("New(%q, %.300q): %v %v", c.host, m, got, e)
		}
		if got == nil {
			continue
		}
		stands(t, got, false, strings.Repeat("0", len(c.to)))
		hears(t, got, "", "")
		hears(t, got, hi, "EHLO "+c.host+"\r\n")
		hears(t, got, no, "HELO "+c.host+"\r\n")
	}
}

func TestNoCall(t *testing.T) { // P17.1, P1
	for _, c := range []*Client{nil, {}, new(Client)} {
		for range 2 {
			if got := c.Put([]byte(hi + plain)); got != "" {
				t.Errorf("Put: %q", got)
			}
			c.Drop()
			if c.Over() || len(c.Fates()) != 0 {
				t.Errorf("Over %v, Fates %v", c.Over(), c.Fates())
			}
		}
	}
}

// step is replies, what is said to them, and what became of the call.
type step struct {
	replies, said string
	over          bool
	fates         string
}

func TestSteps(t *testing.T) { // P17.2
	all := mail + rcptO + rcptP + rcptQ + "DATA\r\n"
	for _, rows := range [][]step{
		// Greetings.
		{{hi, ehlo, false, "000"}, {plain, mail, false, "000"}},
		{{"354 x\r\n", "QUIT\r\n", false, "333"}, {bye, "", true, "333"}},
		{{"421 x\r\n", "QUIT\r\n", false, "222"}, {bye, "", true, "222"}},
		{{"554 x\r\n", "QUIT\r\n", false, "333"}, {"421 x\r\n", "", true, "333"}},
		{{"220-x\r\n", "", false, "000"}, {"220-\r\n220\r\n", ehlo, false, "000"}},
		// EHLO and HELO.
		{{hi + "354 x\r\n", ehlo + "QUIT\r\n", false, "333"}},
		{{hi + later, ehlo + "QUIT\r\n", false, "222"}, {"599\r\n", "", true, "222"}},
		{{hi + no, ehlo + helo, false, "000"}, {ok, mail, false, "000"}},
		{{hi + no + more, ehlo + helo + "QUIT\r\n", false, "333"}},
		{{hi + no + later, ehlo + helo + "QUIT\r\n", false, "222"}},
		{{hi + no + no, ehlo + helo + "QUIT\r\n", false, "333"}, {no, "", true, "333"}},
		// HELO offers nothing, nor does a reply that fails.
		{{hi + "550-y\r\n550-SIZE 1\r\n550 PIPELINING\r\n", ehlo + helo, false, "000"}, {"250-y\r\n250-SIZE 1\r\n250 PIPELINING\r\n", mail, false, "000"}},
		// MAIL.
		{{hi + plain + ok, ehlo + mail + rcptO, false, "000"}},
		{{hi + plain + more, ehlo + mail + "QUIT\r\n", false, "333"}, {bye, "", true, "333"}},
		{{hi + plain + later, ehlo + mail + "QUIT\r\n", false, "222"}},
		{{hi + plain + no, ehlo + mail + "QUIT\r\n", false, "333"}},
		// RCPT.
		{{hi + plain + ok + ok, ehlo + mail + rcptO + rcptP, false, "000"}, {later, rcptQ, false, "020"}, {ok, "DATA\r\n", false, "020"}, {more, frame, false, "020"}, {ok, "QUIT\r\n", false, "121"}, {bye, "", true, "121"}},
		{{hi + plain + ok + no, ehlo + mail + rcptO + rcptP, false, "300"}, {more, rcptQ, false, "330"}, {ok, "DATA\r\n", false, "330"}, {more + later, frame + "QUIT\r\n", false, "332"}},
		{{hi + plain + ok + no + later + more, ehlo + mail + rcptO + rcptP + rcptQ + "QUIT\r\n", false, "323"}, {more, "", true, "323"}},
		{{hi + plain + ok + ok + no + no, ehlo + mail + rcptO + rcptP + rcptQ + "DATA\r\n", false, "033"}},
		// DATA.
		{{hi + plain + ok + ok + no + ok + ok, ehlo + mail + rcptO + rcptP + rcptQ + "DATA\r\n" + "QUIT\r\n", false, "333"}},
		{{hi + plain + ok + ok + no + ok + later, ehlo + mail + rcptO + rcptP + rcptQ + "DATA\r\n" + "QUIT\r\n", false, "232"}},
		{{hi + plain + ok + ok + later + ok + no, ehlo + mail + rcptO + rcptP + rcptQ + "DATA\r\n" + "QUIT\r\n", false, "323"}},
		// The frame.
		{{hi + plain + ok + ok + ok + ok + more, ehlo + mail + rcptO + rcptP + rcptQ + "DATA\r\n" + frame, false, "000"}, {ok, "QUIT\r\n", false, "111"}, {ok, "", true, "111"}},
		{{hi + plain + ok + ok + ok + ok + more + more, ehlo + mail + rcptO + rcptP + rcptQ + "DATA\r\n" + frame + "QUIT\r\n", false, "333"}},
		{{hi + plain + ok + ok + ok + ok + more + later, ehlo + mail + rcptO + rcptP + rcptQ + "DATA\r\n" + frame + "QUIT\r\n", false, "222"}},
		{{hi + plain + ok + ok + ok + ok + more + no, ehlo + mail + rcptO + rcptP + rcptQ + "DATA\r\n" + frame + "QUIT\r\n", false, "333"}},
		// All at once.
		{{hi + piped, ehlo + all, false, "000"}, {ok, "", false, "000"}, {ok, "", false, "000"}, {no, "", false, "030"}, {ok, "", false, "030"}, {more, frame, false, "030"}, {ok, "QUIT\r\n", false, "131"}, {bye, "", true, "131"}},
		{{hi + piped + no, ehlo + all, false, "333"}, {ok + ok + later, "", false, "333"}, {more, ".\r\n", false, "333"}, {ok, "QUIT\r\n", false, "333"}, {bye, "", true, "333"}},
		{{hi + piped + later, ehlo + all, false, "222"}, {no + no + ok, "", false, "222"}, {no, "QUIT\r\n", false, "222"}, {bye, "", true, "222"}},
		{{hi + piped + more, ehlo + all, false, "333"}, {later + later + later, "", false, "333"}, {ok, "QUIT\r\n", false, "333"}},
		{{hi + piped + ok + no + later + no, ehlo + all, false, "323"}, {more, ".\r\n", false, "323"}, {later, "QUIT\r\n", false, "323"}},
		{{hi + piped + ok + no + later + no, ehlo + all, false, "323"}, {no, "QUIT\r\n", false, "323"}},
		{{hi + piped + ok + ok + ok + no, ehlo + all, false, "003"}, {later, "QUIT\r\n", false, "223"}},
		{{hi + piped + ok + ok + ok + no + more + no, ehlo + all + frame + "QUIT\r\n", false, "333"}},
		// Bytes behind the end are not taken.
		{{later + bye + hi + plain, "QUIT\r\n", true, "222"}, {hi, "", true, "222"}, {"x", "", true, "222"}},
	} {
		c := dialled(t, letter())
		for _, r := range rows {
			hears(t, c, r.replies, r.said)
			stands(t, c, r.over, r.fates)
		}
	}
}

func TestBrokenOff(t *testing.T) { // P17.2
	for _, c := range []struct {
		line string
		off  bool
	}{
		{"", true}, {" ", true}, {"2", true}, {"22", true}, {"220", false}, {"220 ", false}, {"220  x\ty", false}, {"220-", false}, {"220x", true}, {"220\tx", true}, {"220_", true}, {"2200", true}, {" 220", true}, {"-220", true}, {"2 20", true}, {"2x0 y", true}, {"22x y", true}, {"x20 y", true}, {"220:", true},
		{"120 x", true}, {"020 x", true}, {"199", true}, {"600", true}, {"699 x", true}, {"920 x", true}, {"/20 x", true}, {":20 x", true}, {"2/0 x", true}, {"2:0 x", true}, {"20/ x", true}, {"20: x", true}, {"200", false}, {"299 x", false}, {"599 x", false}, {"500", false},
		{"EHLO x", true}, {"220\r", true}, {"220\n", true}, {"220 \r", false}, {"220 a\nb\rc", false}, {"220 \x00\x7f\xff", false}, {"220\x00", true}, {"\xef\xbc\x92\x32\x30 x", true}, {"+20 x", true},
		{"220 " + strings.Repeat("x", 506), false}, {"220-" + strings.Repeat("x", 506), false}, {"220 " + strings.Repeat("x", 507), true}, {"220 " + strings.Repeat("x", 5000), true}, {"220 " + strings.Repeat("\n", 506), false},
	} {
		m := letter()
		d := dialled(t, m)
		got := d.Put([]byte(c.line + "\r\n"))
		said := ""
		switch {
		case c.off || strings.HasPrefix(c.line, "220-"):
		case c.line[0] == '2':
			said = ehlo
		default:
			said = "QUIT\r\n"
		}
		if got != said || d.Over() != c.off {
			t.Errorf("Put(%.100q): %q, over %v", c.line, got, d.Over())
		}
		if c.off && fates(d) != "222" {
			t.Errorf("fates behind %.100q: %s", c.line, fates(d))
		}
		if c.off && d.Put([]byte(hi+plain+ok)) != "" {
			t.Errorf("said behind %.100q", c.line)
		}
	}
}

func TestCodesOfOneReply(t *testing.T) { // P17.2
	for _, c := range []struct {
		replies, said string
		over          bool
	}{
		{"220-a\r\n220-b\r\n220 c\r\n", ehlo, false}, {"220-a\r\n220\r\n", ehlo, false}, {"220-\r\n221 c\r\n", "", true}, {"220-a\r\n221-b\r\n", "", true}, {"220-a\r\n230 b\r\n", "", true}, {"220-a\r\n320 b\r\n", "", true}, {"220-a\r\n220x\r\n", "", true}, {"220-a\r\n\r\n", "", true}, {"220-a\r\n", "", false}, {"550-a\r\n551 b\r\n", "", true}, {"550-a\r\n550 b\r\n", "QUIT\r\n", false},
		// Codes of two replies need not be alike.
		{"220 a\r\n250 b\r\n", ehlo + mail, false}, {"220-a\r\n220 b\r\n299-a\r\n299 b\r\n", ehlo + mail, false}, {"220-a\r\n220 b\r\n220-c\r\n250 d\r\n", ehlo, true}, {"220-a\r\n220 b\r\n550-c\r\n551 d\r\n", ehlo, true},
	} {
		d := dialled(t, letter())
		if got := d.Put([]byte(c.replies)); got != c.said || d.Over() != c.over {
			t.Errorf("Put(%q): %q, over %v", c.replies, got, d.Over())
		}
		if d.Over() && fates(d) != "222" {
			t.Errorf("fates behind %q: %s", c.replies, fates(d))
		}
	}
}

func TestLongLines(t *testing.T) { // P17.2
	for _, c := range []struct {
		front string
		over  bool
	}{
		{"220 " + strings.Repeat("x", 507), false}, {"220 " + strings.Repeat("x", 508), true}, {strings.Repeat("x", 511), false}, {strings.Repeat("x", 512), true}, {"220 " + strings.Repeat("x", 506) + "\r", false}, {"220 " + strings.Repeat("x", 507) + "\r", true}, {strings.Repeat("\n", 511), false}, {strings.Repeat("\r", 512), true},
		{"220-" + strings.Repeat("x", 506) + "\r\n" + strings.Repeat("y", 511), false}, {"220-" + strings.Repeat("x", 506) + "\r\n" + strings.Repeat("y", 512), true},
	} {
		for _, whole := range []bool{true, false} {
			d := dialled(t, letter())
			if whole {
				hears(t, d, c.front, "")
			}
			for at := range len(c.front) {
				if d.Over() && !whole && at < len(c.front)-1 {
					t.Fatalf("over at %d of %q", at, c.front)
				}
				if !whole {
					hears(t, d, c.front[at:at+1], "")
				}
			}
			if d.Over() != c.over {
				t.Errorf("over %v behind %d bytes", d.Over(), len(c.front))
			}
		}
	}
	// A line of as many bytes as may be is taken, its end with them, and the next one is counted anew.
	d := dialled(t, letter())
	long := "220-" + strings.Repeat("x", 506) + "\r\n"
	hears(t, d, strings.Repeat(long, 50)+"220 "+long[4:], ehlo)
}

// offered is the reply to EHLO with these words.
func offered(words ...string) string {
	out := ""
	for _, w := range append([]string{"y"}, words...) {
		out += "250-" + w + "\r\n"
	}
	return out + "250 HELP\r\n"
}

func TestOffers(t *testing.T) { // P17.2
	const plainText, highText = "t\r\n", "\x80\r\n"
	const failed = "QUIT\r\n"
	from := func(words string) string { return "MAIL FROM:<a@b>" + words + "\r\n" }
	behind := rcptO + "DATA\r\n"
	for _, c := range []struct{ reply, data, want string }{
		{offered(), plainText, from("")}, {offered(), highText, failed}, {plain, highText, failed},
		{offered("8BITMIME"), highText, from(" BODY=8BITMIME")}, {offered("8bitMime"), highText, from(" BODY=8BITMIME")}, {offered("8BITMIME x y"), highText, from(" BODY=8BITMIME")}, {offered("8BITMIMEx"), highText, failed}, {offered(" 8BITMIME"), highText, failed}, {offered("8BITMIME\t"), highText, failed}, {offered("8BITMIM"), highText, failed}, {offered("x 8BITMIME"), highText, failed}, {offered("8BITMIME"), plainText, from("")}, {offered("8B\xc4\xb1TMIME"), highText, failed}, {offered("8BITM\xc4\xb0ME"), highText, failed}, {offered("8BITMIME="), highText, failed}, {offered("8BITMIME"), "\x7f\r\n", from("")}, {offered("8BITMIME"), "a\r\n\xff\r\n", from(" BODY=8BITMIME")},
		{offered("SIZE"), plainText, from(" SIZE=3")}, {offered("SIZE "), plainText, from(" SIZE=3")}, {offered("SIZE 0"), plainText, from(" SIZE=3")}, {offered("SIZE 3"), plainText, from(" SIZE=3")}, {offered("SIZE 2"), plainText, failed}, {offered("size 2"), plainText, failed}, {offered("SIZE 1"), plainText, failed}, {offered("SIZE 1"), "", from(" SIZE=0")}, {offered("SIZE 1"), "\r\n", failed}, {offered("SIZE 2"), "\r\n", from(" SIZE=2")}, {offered("SIZE 000000000000000002"), plainText, failed}, {offered("SIZE 0000000000000000002"), plainText, from(" SIZE=3")}, {offered("SIZE 999999999999999999"), plainText, from(" SIZE=3")}, {offered("SIZE 9999999999999999999"), plainText, from(" SIZE=3")}, {offered("SIZE 1x"), plainText, from(" SIZE=3")}, {offered("SIZE 1 "), plainText, from(" SIZE=3")}, {offered("SIZE  1"), plainText, from(" SIZE=3")}, {offered("SIZE -1"), plainText, from(" SIZE=3")}, {offered("SIZE +1"), plainText, from(" SIZE=3")}, {offered("SIZE 1 1"), plainText, from(" SIZE=3")}, {offered("SIZE=1"), plainText, from("")}, {offered("SIZES 1"), plainText, from("")}, {offered("\xc5\xbfIZE 1"), plainText, from("")}, {offered("SIZE\t1"), plainText, from("")}, {offered("SIZE 1_0"), plainText, from(" SIZE=3")}, {offered("SIZE 0x1"), plainText, from(" SIZE=3")},
		{offered("SIZE 4294967297"), plainText, from(" SIZE=3")}, {offered("SIZE 100000000000000000"), plainText, from(" SIZE=3")},
		// Of two the last one.
		{offered("SIZE 1", "SIZE 9"), plainText, from(" SIZE=3")}, {offered("SIZE 9", "SIZE 1"), plainText, failed}, {offered("SIZE 1", "SIZE"), plainText, from(" SIZE=3")}, {offered("SIZE 1", "SIZE x"), plainText, from(" SIZE=3")}, {offered("SIZE", "SIZE 1"), plainText, failed},
		{offered("PIPELINING"), plainText, from("") + behind}, {offered("pipelining x"), plainText, from("") + behind}, {offered("PIPELININGS"), plainText, from("")}, {offered("P\xc4\xb1PELINING"), plainText, from("")},
		{offered("SIZE 9", "8BITMIME", "PIPELINING"), highText, from(" SIZE=3 BODY=8BITMIME") + behind}, {offered("PIPELINING", "8BITMIME", "SIZE"), highText, from(" SIZE=3 BODY=8BITMIME") + behind}, {offered("SIZE 2", "8BITMIME", "PIPELINING"), plainText, failed}, {offered("SIZE", "PIPELINING"), highText, failed},
		// The first line offers nothing, the last one does; a hyphen or a blank is ahead of a word, or nothing is there.
		{"250 PIPELINING\r\n", plainText, from("")}, {"250-SIZE 1\r\n250 x\r\n", plainText, from("")}, {"250-x\r\n250 SIZE 1\r\n", plainText, failed}, {"250-x\r\n250-SIZE 1\r\n250\r\n", plainText, failed}, {"250-x\r\n250-\r\n250-PIPELINING\r\n250 SIZE\r\n", plainText, from(" SIZE=3") + behind}, {"299-x\r\n299 PIPELINING\r\n", plainText, from("") + behind},
	} {
		d := dialled(t, api.Mail{From: "a@b", To: []string{"o@x"}, Data: []byte(c.data)})
		hears(t, d, hi, ehlo)
		hears(t, d, c.reply, c.want)
		if c.want == failed {
			stands(t, d, false, "3")
			hears(t, d, bye, "")
			stands(t, d, true, "3")
		} else {
			stands(t, d, false, "0")
		}
	}
	// Lines of the greeting, and of other replies, offer nothing.
	d := dialled(t, letter())
	hears(t, d, "220-x\r\n220-PIPELINING\r\n220 SIZE 1\r\n"+plain, ehlo+mail)
	hears(t, d, "250-x\r\n250-PIPELINING\r\n250 SIZE 1\r\n", rcptO)
	// HELO offers nothing, and so a byte above 127 can't be sent.
	d = dialled(t, api.Mail{To: []string{"o@x"}, Data: []byte("\xe9\r\n")})
	hears(t, d, hi+"550-x\r\n550 8BITMIME\r\n"+"250-x\r\n250 8BITMIME\r\n", ehlo+helo+"QUIT\r\n")
	stands(t, d, false, "3")
}

func TestEmptySender(t *testing.T) { // P17.2
	d := dialled(t, api.Mail{To: []string{"o@x"}})
	hears(t, d, hi+piped, ehlo+"MAIL FROM:<>\r\n"+rcptO+"DATA\r\n")
	hears(t, d, ok+ok+more, ".\r\n")
	hears(t, d, ok, "QUIT\r\n")
	stands(t, d, false, "1")
}

func TestDrop(t *testing.T) { // P17.2, P17.4, P17.6
	replies := []string{hi, plain, ok, ok, later, ok, more, ok, bye}
	want := []string{"222", "222", "222", "222", "222", "222", "222", "222", "121", "121"}
	for n := range len(replies) + 1 {
		for _, half := range []string{"", "2", "250-x\r\n25"} {
			d := dialled(t, letter())
			d.Put([]byte(strings.Join(replies[:n], "") + half))
			d.Drop()
			stands(t, d, true, want[n])
			d.Drop()
			hears(t, d, hi+plain+ok, "")
			stands(t, d, true, want[n])
		}
	}
	d := dialled(t, letter())
	hears(t, d, no, "QUIT\r\n")
	d.Drop()
	stands(t, d, true, "333")
}

// told is what a call is like, to be held against another one.
type told struct {
	said  string
	over  bool
	fates string
}

// model tells what a call says to all of the replies, slowly: these are told apart in the whole text first.
func model(host string, m api.Mail, text string) told {
	w := &walk{host: host, m: m, fates: make([]int, len(m.To))}
	w.replies, w.off = repliesOf(text)
	over := w.run()
	out := told{said: strings.Join(w.said, ""), over: over}
	for _, f := range w.fates {
		out.fates += strconv.Itoa(f)
	}
	return out
}

// repliesOf is the lines of each whole reply at a text's front, and whether what is behind them breaks a call off.
func repliesOf(text string) ([][]string, bool) {
	var all [][]string
	var now []string
	for {
		line, behind, ended := strings.Cut(text, "\r\n")
		if !ended || len(line) > 510 {
			return all, len(text) >= 512
		}
		if !regexp.MustCompile(`(?s)^[2-5]\d\d([- ].*)?$`).MatchString(line) || len(now) > 0 && now[0][:3] != line[:3] {
			return all, true
		}
		now = append(now, line)
		if len(line) == 3 || line[3] == ' ' {
			all, now = append(all, now), nil
		}
		text = behind
	}
}

// walk is a call that has all of its replies.
type walk struct {
	host    string
	m       api.Mail
	replies [][]string
	off     bool
	said    []string
	fates   []int
}

// hear takes the next reply, if there is one.
func (w *walk) hear(said ...string) (byte, bool) {
	w.said = append(w.said, said...)
	if len(w.replies) == 0 {
		return 0, false
	}
	class := w.replies[0][0][0]
	w.replies = w.replies[1:]
	return class, true
}

// all gives all who are Open a fate.
func (w *walk) all(class byte) {
	for i := range w.fates {
		if w.fates[i] == Open {
			w.fates[i] = map[byte]int{'1': Sent, '4': Again}[class]
			if w.fates[i] == Open {
				w.fates[i] = Failed
			}
		}
	}
}

// run does the call: is it over?
func (w *walk) run() bool {
	if w.talk() {
		_, there := w.hear("QUIT\r\n")
		if there {
			return true
		}
	}
	if w.off {
		w.all('4')
	}
	return w.off
}

// talk does the call up to QUIT: is it said?
func (w *walk) talk() bool {
	class, there := w.hear()
	if !there || class != '2' {
		w.gone(there, class)
		return there
	}
	var lines []string
	if len(w.replies) > 0 {
		lines = w.replies[0][1:]
	}
	class, there = w.hear("EHLO " + w.host + "\r\n")
	if there && class == '5' {
		lines = nil
		class, there = w.hear("HELO " + w.host + "\r\n")
	}
	if !there || class != '2' {
		w.gone(there, class)
		return there
	}
	sized, size, eight, pipe := offersOf(lines)
	high := regexp.MustCompile(`[^\x00-\x7f]`).Match(bytes.ToValidUTF8(w.m.Data, []byte("é")))
	if high && !eight || size != 0 && len(w.m.Data) > size {
		w.all('5')
		return true
	}
	from := "MAIL FROM:<" + w.m.From + ">"
	if sized {
		from += " SIZE=" + strconv.Itoa(len(w.m.Data))
	}
	if high {
		from += " BODY=8BITMIME"
	}
	if pipe {
		return w.atOnce(from)
	}
	return w.oneByOne(from)
}

// gone gives up, if there is a reply.
func (w *walk) gone(there bool, class byte) {
	if there {
		w.all(class)
	}
}

// offersOf is what lines offer.
func offersOf(lines []string) (bool, int, bool, bool) {
	sized, size, eight, pipe := false, 0, false, false
	for _, l := range lines {
		word := regexp.MustCompile(`(?s)^...[- ]([^ ]*)(?: (.*))?$`).FindStringSubmatch(l)
		switch {
		case word == nil:
		case regexp.MustCompile(`^[Ss][Ii][Zz][Ee]$`).MatchString(word[1]):
			sized, size = true, 0
			if regexp.MustCompile(`^\d{1,18}$`).MatchString(word[2]) {
				size, _ = strconv.Atoi(word[2])
			}
		case regexp.MustCompile(`^8[Bb][Ii][Tt][Mm][Ii][Mm][Ee]$`).MatchString(word[1]):
			eight = true
		case regexp.MustCompile(`^[Pp][Ii][Pp][Ee][Ll][Ii][Nn][Ii][Nn][Gg]$`).MatchString(word[1]):
			pipe = true
		}
	}
	return sized, size, eight, pipe
}

// text is the frame of the mail, if somebody has it.
func (w *walk) text(taken []int) string {
	if len(taken) == 0 {
		return ".\r\n"
	}
	return regexp.MustCompile(`(?m)^\.`).ReplaceAllString(string(w.m.Data), "..") + ".\r\n"
}

// end does DATA's reply, and the frame's.
func (w *walk) end(taken []int, class byte) bool {
	if class == '3' {
		var there bool
		class, there = w.hear(w.text(taken))
		if !there {
			return false
		}
		if class == '2' {
			class = '1'
		}
	}
	w.all(class)
	return true
}

// atOnce says MAIL and all behind it.
func (w *walk) atOnce(from string) bool {
	said := []string{from + "\r\n"}
	for _, to := range w.m.To {
		said = append(said, "RCPT TO:<"+to+">\r\n")
	}
	class, there := w.hear(append(said, "DATA\r\n")...)
	if !there {
		return false
	}
	if class != '2' {
		w.all(class)
	}
	var taken []int
	for i := range w.m.To {
		if class, there = w.hear(); !there {
			return false
		}
		if w.fates[i] != Open {
			continue
		}
		if class == '2' {
			taken = append(taken, i)
		} else {
			w.fates[i] = map[bool]int{true: Again, false: Failed}[class == '4']
		}
	}
	class, there = w.hear()
	return there && w.end(taken, class)
}

// oneByOne says MAIL, and each thing behind it when the one ahead was replied to.
func (w *walk) oneByOne(from string) bool {
	class, there := w.hear(from + "\r\n")
	if !there || class != '2' {
		w.gone(there, class)
		return there
	}
	var taken []int
	for i, to := range w.m.To {
		if class, there = w.hear("RCPT TO:<" + to + ">\r\n"); !there {
			return false
		}
		if class == '2' {
			taken = append(taken, i)
		} else {
			w.fates[i] = map[bool]int{true: Again, false: Failed}[class == '4']
		}
	}
	if len(taken) == 0 {
		return true
	}
	class, there = w.hear("DATA\r\n")
	return there && w.end(taken, class)
}

// someReplies are replies, most of which bring a call on.
func someReplies(r *rand.Rand) string {
	pick := func(l ...string) string { return l[r.Intn(len(l))] }
	out := pick(hi, hi, hi, hi, hi, "220-x\r\n220\r\n", "420 x\r\n", "520 x\r\n", "320 x\r\n")
	words := ""
	for range r.Intn(4) {
		words += "250-" + pick("PIPELINING", "PIPELINING", "8BITMIME", "8BITMIME", "SIZE", "SIZE 5", "SIZE 9", "SIZE 99", "size 0", "x", "", " ", "8bitmime x", "SIZE 1x", "pipelinin\xc5\xbf") + "\r\n"
	}
	out += pick("250-y\r\n"+words+"250 z\r\n", "250-y\r\n"+words+"250\r\n", "250-y\r\n"+words+"250 PIPELINING\r\n", plain, no, "550-x\r\n550-PIPELINING\r\n550 x\r\n", later, more)
	if r.Intn(4) > 0 {
		out += pick(ok, ok, ok, ok, later, no, more)
	}
	for range r.Intn(12) {
		out += pick(ok, ok, ok, ok, more, more, no, later, "250-a\r\n250 b\r\n", "354\r\n")
	}
	if r.Intn(3) == 0 {
		out += pick("x\r\n", "250x\r\n", "250-a\r\n251 b\r\n", "\r\n", "25\r\n", "150 x\r\n", "250 \r\r\n", "250 "+strings.Repeat("x", 506)+"\r\n", "250 "+strings.Repeat("x", 507)+"\r\n", strings.Repeat("y", 512), strings.Repeat("y", 511), "250\n\r\n", "250-\r\n250-a\r\n25")
	}
	for range r.Intn(8) {
		out += pick(ok, ok, more, no, later, bye)
	}
	switch r.Intn(12) {
	case 0:
		return out[:r.Intn(len(out)+1)]
	case 1:
		at := r.Intn(len(out))
		return out[:at] + string([]byte{byte(r.Intn(256))}) + out[at+1:]
	}
	return out
}

// someMail is a mail of a few recipients.
func someMail(r *rand.Rand) api.Mail {
	texts := []string{"", "\r\n", "t\r\n", ".\r\n", "..\r\n.a\r\n\r\n", "\xe9\r\n", "abc\r\n.\r\n\x80.\r\n"}
	m := api.Mail{From: []string{"", "a@b"}[r.Intn(2)], To: []string{"o@x", "p@x", "q@x"}[:1+r.Intn(3)], Data: []byte(texts[r.Intn(len(texts))])}
	return m
}

func TestModel(t *testing.T) { // P17.2, P17.3, P17.4, P17.6
	r := rand.New(rand.NewSource(17))
	seen := map[string]int{}
	for range 20000 {
		m, replies := someMail(r), someReplies(r)
		want := model("h.org", m, replies)
		whole, cut := dialled(t, m), dialled(t, m)
		got := told{said: whole.Put([]byte(replies)), over: whole.Over(), fates: fates(whole)}
		if got != want {
			t.Fatalf("%+v, %q:\n%+v, not\n%+v", m, replies, got, want)
		}
		got = told{}
		for left := replies; left != ""; {
			n := 1 + r.Intn(min(len(left), 9))
			before := cut.Fates()
			got.said += cut.Put([]byte(left[:n]))
			left = left[n:]
			checkStep(t, before, cut)
		}
		got.over, got.fates = cut.Over(), fates(cut)
		if got != want {
			t.Fatalf("%+v, %q in pieces:\n%+v, not\n%+v", m, replies, got, want)
		}
		for _, f := range want.fates {
			seen[string(f)]++
		}
		if want.over {
			seen["over"]++
		}
		if strings.HasSuffix(want.said, "DATA\r\n.\r\nQUIT\r\n") {
			seen["point"]++
		}
	}
	for _, k := range []string{"0", "1", "2", "3", "over", "point"} {
		if seen[k] < 100 {
			t.Errorf("just %d of %s", seen[k], k)
		}
	}
}

// checkStep asks that a fate changed once, and that none is Open when all is over.
func checkStep(t *testing.T, before []int, c *Client) {
	t.Helper()
	after := c.Fates()
	for i, f := range before {
		if f != Open && after[i] != f {
			t.Fatalf("a fate changed: %v, %v", before, after)
		}
	}
	if c.Over() && slices.Contains(after, Open) {
		t.Fatalf("over, and Open: %v", after)
	}
}

func TestSentAsSaid(t *testing.T) { // P17.6
	r := rand.New(rand.NewSource(171))
	sent := 0
	for range 20000 {
		m, replies := someMail(r), someReplies(r)
		c := dialled(t, m)
		framed := false
		for at := range len(replies) {
			before := c.Fates()
			said := c.Put([]byte(replies[at : at+1]))
			after := c.Fates()
			if slices.Contains(after, Sent) && !slices.Contains(before, Sent) {
				sent++
				line := replies[:at+1]
				line = line[strings.LastIndex(line[:len(line)-2], "\r\n")+2:]
				if !framed || line[0] != '2' || said != "QUIT\r\n" {
					t.Fatalf("Sent without a done behind the frame: %+v %q", m, replies[:at+1])
				}
			}
			framed = framed || strings.HasSuffix(said, ".\r\n") && !strings.HasPrefix(said, "EHLO")
		}
	}
	if sent < 200 {
		t.Errorf("just %d sent", sent)
	}
}

func TestAllCuts(t *testing.T) { // P17.3
	replies := "220-a\r\n220 b\r\n250-y\r\n250-SIZE 99\r\n250 PIPELINING\r\n" + ok + later + ok + "250-a\r\n250 b\r\n" + more + ok + bye + "x"
	want := ehlo + "MAIL FROM:<a@b> SIZE=7\r\n" + rcptO + rcptP + rcptQ + "DATA\r\n" + frame + "QUIT\r\n"
	for i := range len(replies) + 1 {
		for j := i; j <= len(replies); j++ {
			c := dialled(t, letter())
			got := c.Put([]byte(replies[:i])) + c.Put([]byte(replies[i:j])) + c.Put([]byte(replies[j:]))
			if got != want || !c.Over() || fates(c) != "211" {
				t.Fatalf("cut at %d, %d: %q %v %s", i, j, got, c.Over(), fates(c))
			}
		}
	}
	c := dialled(t, letter())
	got := ""
	for _, b := range []byte(replies) {
		got += c.Put(nil) + c.Put([]byte{b})
	}
	if got != want || !c.Over() || fates(c) != "211" {
		t.Fatalf("byte by byte: %q", got)
	}
}

// between hands bytes from a call to a session and back, in pieces, till neither says more; what the mail that waits is answered with; the mails that waited.
func between(t *testing.T, c *Client, s *serve.Server, code int, edit func(string) string, r *rand.Rand) []api.Mail {
	t.Helper()
	var mails []api.Mail
	toCall := s.Hello()
	for rounds := 0; toCall != ""; rounds++ {
		if rounds > 1000 {
			t.Fatal("no end")
		}
		toSession := ""
		for left := edit(toCall); left != ""; {
			n := 1 + r.Intn(len(left))
			toSession += c.Put([]byte(left[:n]))
			left = left[n:]
		}
		toCall = ""
		for toSession != "" {
			n, replied := s.Put([]byte(toSession[:1+r.Intn(len(toSession))]))
			toSession, toCall = toSession[n:], toCall+replied
			if m, there := s.Waits(); there {
				mails = append(mails, m)
				replied, _ = s.Answer(code)
				toCall += replied
			}
		}
	}
	return mails
}

func TestAgainstASession(t *testing.T) { // P17.5, P4
	r := rand.New(rand.NewSource(175))
	texts := []string{"", "\r\n", "t\r\n", ".\r\n", "..\r\n.\r\n", "\xe9\x00\xff\r\n.\x80\r\n", strings.Repeat(".a\r\n", 9), strings.Repeat(strings.Repeat("x", 998)+"\r\n", 60), "QUIT\r\n.\r\nDATA\r\n"}
	edits := map[string]func(string) string{
		"all":           func(s string) string { return s },
		"no PIPELINING": func(s string) string { return strings.ReplaceAll(s, "PIPELINING", "x") },
		"no SIZE":       func(s string) string { return strings.ReplaceAll(s, "SIZE", "x") },
		"small":         strings.ToLower,
	}
	for _, data := range texts {
		for name, edit := range edits {
			for n := 1; n <= api.MaxRcpts; n += 3 {
				for code, fate := range map[int]int{250: Sent, 299: Sent, 451: Again, 554: Failed, 354: Failed} {
					m := api.Mail{From: []string{"", "a@b"}[r.Intn(2)], Data: []byte(data)}
					for i := range n {
						m.To = append(m.To, "p"+strconv.Itoa(i)+"@x")
					}
					owners := slices.Clone(m.To)
					slices.Reverse(owners)
					s, _ := serve.New("y", owners, api.MaxSize)
					c := dialled(t, m)
					mails := between(t, c, s, code, edit, r)
					if len(mails) != 1 || !reflect.DeepEqual(mails[0].To, m.To) || mails[0].From != m.From || !bytes.Equal(mails[0].Data, m.Data) {
						t.Fatalf("%s: %+.300q waits, not %+.300q", name, mails, m)
					}
					if !c.Over() || !s.Over() || fates(c) != strings.Repeat(strconv.Itoa(fate), n) {
						t.Fatalf("%s, answered %d: over %v %v, fates %s", name, code, c.Over(), s.Over(), fates(c))
					}
				}
			}
		}
	}
}

func TestSessionThatRefuses(t *testing.T) { // P17.4, P4
	r := rand.New(rand.NewSource(176))
	same := func(s string) string { return s }
	dumb := func(s string) string { return strings.ReplaceAll(s, "250-", "550-") }
	for _, c := range []struct {
		owners, data string
		size         int
		edit         func(string) string
		want         string
		to           string
	}{
		{"o@x q@x", "t\r\n", 9, same, "131", "o@x q@x"}, {"", "t\r\n", 9, same, "333", ""}, {"p@x", "t\r\n", 9, same, "313", "p@x"}, {"o@x p@x q@x", "t\r\n", 2, same, "333", ""}, {"o@x p@x q@x", "t\r\n", 3, same, "111", "o@x p@x q@x"},
		{"o@x p@x q@x", "\xff\r\n", 9, func(s string) string { return strings.ReplaceAll(s, "8BITMIME", "x") }, "333", ""},
		{"o@x", "t\r\n", 2, func(s string) string { return strings.ReplaceAll(s, "SIZE", "x") }, "333", ""},
		{"o@x", "t\r\n", 9, func(s string) string { return strings.ReplaceAll(s, "PIPELINING", "x") }, "133", "o@x"},
		{"", "t\r\n", 9, func(s string) string { return strings.ReplaceAll(s, "PIPELINING", "x") }, "333", ""},
		{"o@x", "t\r\n", 9, func(s string) string { return strings.ReplaceAll(dumb(s), "250 P", "550 P") }, "133", "o@x"},
	} {
		for range 20 {
			s, e := serve.New("y", strings.Fields(c.owners), c.size)
			if e != api.OK {
				t.Fatal(e)
			}
			m := letter()
			m.Data = []byte(c.data)
			d := dialled(t, m)
			mails := between(t, d, s, 250, c.edit, r)
			to := ""
			for _, w := range mails {
				to += strings.Join(w.To, " ")
			}
			if to != c.to || !d.Over() || fates(d) != c.want {
				t.Fatalf("%+v: to %q, over %v, fates %s", c.owners, to, d.Over(), fates(d))
			}
		}
	}
}

func TestNothingIsChangedOrKept(t *testing.T) { // Rules 4 and 5
	to := []string{"o@x", "p@x", "q@x", "behind"}
	data := []byte("t\r\n.u\r\nbehind")
	m := api.Mail{From: "a@b", To: to[:3:4], Data: data[:7:len(data)]}
	c := dialled(t, m)
	if !slices.Equal(to, []string{"o@x", "p@x", "q@x", "behind"}) || string(data) != "t\r\n.u\r\nbehind" {
		t.Error("New changed the mail")
	}
	to[0], data[0] = "z@x", 'z'
	replies := []byte(hi + piped + "250" + "behind")
	b := replies[: len(replies)-6 : len(replies)]
	hears(t, c, string(b[:0]), "")
	if got := c.Put(b); got != ehlo+mail+rcptO+rcptP+rcptQ+"DATA\r\n" {
		t.Errorf("Put: %q", got)
	}
	if string(replies) != hi+piped+"250behind" {
		t.Error("Put changed its bytes")
	}
	for i := range replies {
		replies[i] = 'x'
	}
	hears(t, c, " ok\r\n"+ok+ok+ok+more, frame)
	f := c.Fates()
	for i := range f {
		f[i] = Failed
	}
	stands(t, c, false, "000")
	f = c.Fates()
	_ = append(f, Failed)
	hears(t, c, ok, "QUIT\r\n")
	stands(t, c, false, "111")
	if slices.Contains(f, Sent) {
		t.Error("fates that were handed out changed")
	}
}

func TestFrameIsDots(t *testing.T) { // P17.2
	r := rand.New(rand.NewSource(5))
	for range 300 {
		var text []byte
		for range r.Intn(20) {
			for range r.Intn(5) {
				text = append(text, "..a\x00\xff "[r.Intn(6)])
			}
			text = append(text, "\r\n"...)
		}
		c := dialled(t, api.Mail{From: "a@b", To: []string{"o@x"}, Data: text})
		c.Put([]byte(hi + "250-x\r\n250 8BITMIME\r\n" + ok + ok))
		want, _ := dots.Stuff(text)
		hears(t, c, more, string(want))
	}
}

func TestAnyBytesEnd(t *testing.T) { // P1
	r := rand.New(rand.NewSource(1))
	for range 3000 {
		c := dialled(t, someMail(r))
		for range r.Intn(30) {
			b := make([]byte, r.Intn(40))
			for i := range b {
				b[i] = "2345 0-\r\nx\xff"[r.Intn(11)]
			}
			before := c.Fates()
			c.Put(b)
			if r.Intn(50) == 0 {
				c.Drop()
			}
			checkStep(t, before, c)
		}
	}
	c := dialled(t, letter())
	long := strings.Repeat("220-"+strings.Repeat("x", 500)+"\r\n", 20000)
	hears(t, c, long, "")
	hears(t, c, hi, ehlo)
	c = dialled(t, letter())
	hears(t, c, hi+plain+later+bye+strings.Repeat("x", 1<<22), ehlo+mail+"QUIT\r\n")
}
