package serve

import (
	"bytes"
	"io"
	"math"
	"math/rand"
	"net"
	"net/smtp"
	"reflect"
	"regexp"
	"slices"
	"strconv"
	"strings"
	"testing"
	"time"

	"posthorn/api"
	"posthorn/dots"
)

// The replies, by their codes.
const (
	ok250  = "250 ok\r\n"
	ok252  = "252 ok\r\n"
	ok354  = "354 ok\r\n"
	no452  = "452 no\r\n"
	no500  = "500 no\r\n"
	no501  = "501 no\r\n"
	no503  = "503 no\r\n"
	no550  = "550 no\r\n"
	no552  = "552 no\r\n"
	no554  = "554 no\r\n"
	hi250  = "250 h.org\r\n"
	hi220  = "220 h.org\r\n"
	bye221 = "221 h.org\r\n"
	ehlos  = "250-h.org\r\n250-SIZE 100\r\n250-8BITMIME\r\n250 PIPELINING\r\n"
)

// What brings a session so far.
const (
	greetedBy = "EHLO c\r\n"
	fromBy    = greetedBy + "MAIL FROM:<a@b>\r\n"
	toBy      = fromBy + "RCPT TO:<o@x>\r\n"
	dataBy    = toBy + "DATA\r\n"
)

// session is a session of h.org, of the owners o@x, p@x and q.r@x.org, that takes texts of 100 bytes.
func session(t testing.TB) *Server {
	t.Helper()
	s, e := New("h.org", []string{"o@x", "p@x", "q.r@x.org"}, 100)
	if s == nil || e != api.OK {
		t.Fatalf("New: %v %v", s, e)
	}
	return s
}

// behind is a session that took bytes, all of them.
func behind(t testing.TB, text string) *Server {
	t.Helper()
	s := session(t)
	if n, _ := s.Put([]byte(text)); n != len(text) {
		t.Fatalf("Put(%q): %d", text, n)
	}
	return s
}

// put puts a text in that is taken as a whole, and replied to so.
func put(t testing.TB, s *Server, text, want string) {
	t.Helper()
	if n, got := s.Put([]byte(text)); n != len(text) || got != want {
		t.Fatalf("Put(%.1000q): %d %q, not %d %q", text, n, got, len(text), want)
	}
}

// sameMail tells whether mails are alike, with lists that are nil or empty, too.
func sameMail(a, b api.Mail) bool {
	return a.From == b.From && slices.Equal(a.To, b.To) && bytes.Equal(a.Data, b.Data)
}

// waits asks for the mail that waits.
func waits(t testing.TB, s *Server, from, to, data string) {
	t.Helper()
	want := api.Mail{From: from, To: strings.Fields(to), Data: []byte(data)}
	if m, there := s.Waits(); !there || !sameMail(m, want) {
		t.Fatalf("Waits: %+v %v, not %+v", m, there, want)
	}
}

// waitsNone asks that none waits.
func waitsNone(t testing.TB, s *Server) {
	t.Helper()
	if m, there := s.Waits(); there || !sameMail(m, api.Mail{}) {
		t.Fatalf("Waits: %+v %v", m, there)
	}
}

func TestExamples(t *testing.T) { // P16.2, P16.3
	s, e := New("x", []string{"o@x"}, 65536)
	if e != api.OK || s.Hello() != "220 x\r\n" {
		t.Fatalf("New: %v", e)
	}
	put(t, s, "EHLO x\r\n", "250-x\r\n250-SIZE 65536\r\n250-8BITMIME\r\n250 PIPELINING\r\n")
	put(t, s, "MAIL FROM:<a@b>\r\n", ok250)
	put(t, s, "RCPT TO:<O@x>\r\n", ok250)
	put(t, s, "DATA\r\n", ok354)
	put(t, s, ".\r\n", "")
	waits(t, s, "a@b", "o@x", "")
	if got, e := s.Answer(250); got != ok250 || e != api.OK {
		t.Errorf("Answer: %q %v", got, e)
	}
	put(t, s, "QUIT\r\n", "221 x\r\n")
	if !s.Over() {
		t.Error("not over")
	}
}

func TestNew(t *testing.T) { // P16.1
	some := func(n int) []string {
		var out []string
		for i := range n {
			out = append(out, "p"+strconv.Itoa(i)+"@x")
		}
		return out
	}
	label := strings.Repeat("a", 63)
	for _, c := range []struct {
		host   string
		owners []string
		size   int
		want   api.Errno
	}{
		{"x", nil, 1, api.OK}, {"x", []string{}, 1, api.OK}, {"x", some(64), api.MaxSize, api.OK}, {"X.Org", some(1), 9, api.OK}, {"9-9.a", some(1), 9, api.OK}, {label + "." + label + "." + label + "." + label[:61], nil, 1, api.OK},
		{"x", []string{"a@x", "a@x"}, 1, api.OK},
		{"", some(1), 9, api.ErrArg}, {".", some(1), 9, api.ErrArg}, {"x.", some(1), 9, api.ErrArg}, {"-x", some(1), 9, api.ErrArg}, {"x y", some(1), 9, api.ErrArg}, {"a@x", some(1), 9, api.ErrArg}, {"x\r\n", some(1), 9, api.ErrArg}, {"é", some(1), 9, api.ErrArg}, {label + "a", some(1), 9, api.ErrArg}, {label + "." + label + "." + label + "." + label[:62], nil, 1, api.ErrArg},
		{"x", some(65), 9, api.ErrArg}, {"x", slices.Repeat([]string{"a@x"}, 65), 9, api.ErrArg},
		{"x", []string{"a"}, 9, api.ErrArg}, {"x", []string{"A@x"}, 9, api.ErrArg}, {"x", []string{"a@X"}, 9, api.ErrArg}, {"x", []string{"a@x", ""}, 9, api.ErrArg}, {"x", []string{"a@x", "N <a@x>"}, 9, api.ErrArg}, {"x", []string{"<a@x>"}, 9, api.ErrArg},
		{"x", some(1), 0, api.ErrArg}, {"x", some(1), -1, api.ErrArg}, {"x", some(1), math.MinInt, api.ErrArg}, {"x", some(1), api.MaxSize + 1, api.ErrArg}, {"x", some(1), math.MaxInt, api.ErrArg},
	} {
		s, e := New(c.host, c.owners, c.size)
		if e != c.want || (s == nil) != (e != api.OK) {
			t.Errorf("New(%q, %.200q, %d): %v %v", c.host, c.owners, c.size, s, e)
		}
		if s == nil {
			continue
		}
		if s.Hello() != "220 "+c.host+"\r\n" || s.Over() {
			t.Errorf("New(%q, ..): %q %v", c.host, s.Hello(), s.Over())
		}
		waitsNone(t, s)
		put(t, s, "MAIL FROM:<>\r\n", no503)
		put(t, s, "EHLO c\r\n", "250-"+c.host+"\r\n250-SIZE "+strconv.Itoa(c.size)+"\r\n250-8BITMIME\r\n250 PIPELINING\r\n")
		put(t, s, "HELO c\r\n", "250 "+c.host+"\r\n")
		put(t, s, "MAIL FROM:<>\r\n", ok250)
		put(t, s, "RCPT TO:<z@x>\r\n", no550)
		for i, owner := range c.owners {
			if i < api.MaxRcpts {
				put(t, s, "RCPT TO:<"+owner+">\r\n", ok250)
			} else {
				put(t, s, "RCPT TO:<"+owner+">\r\n", no452)
			}
		}
		put(t, s, "QUIT\r\n", "221 "+c.host+"\r\n")
	}
}

func TestNoSession(t *testing.T) { // P16.1, P1
	for _, s := range []*Server{nil, {}, new(Server)} {
		if got := s.Hello(); got != "" {
			t.Errorf("Hello: %q", got)
		}
		if n, got := s.Put([]byte("EHLO c\r\nQUIT\r\n")); n != 0 || got != "" {
			t.Errorf("Put: %d %q", n, got)
		}
		waitsNone(t, s)
		for _, code := range []int{250, 0, -1} {
			if got, e := s.Answer(code); got != "" || e != api.ErrNil {
				t.Errorf("Answer: %q %v", got, e)
			}
		}
		if s.Over() {
			t.Error("over")
		}
	}
}

func TestCommands(t *testing.T) { // P16.2
	for _, c := range []struct{ before, line, want string }{
		// Greetings.
		{"", "HELO c", hi250}, {"", "EHLO c", ehlos}, {"", "helo c", hi250}, {"", "eHlO c", ehlos}, {"", "HELO", no501}, {"", "EHLO", no501}, {"", "HELO ", no501}, {"", "EHLO    ", no501}, {"", "HELO a b c", hi250}, {"", "HELO  c", hi250}, {"", "HELO c   ", hi250},
		{"", "HELO " + strings.Repeat("a", 255), hi250}, {"", "HELO " + strings.Repeat("a", 256), no501}, {"", "EHLO " + strings.Repeat("a", 255), ehlos}, {"", "EHLO " + strings.Repeat("a", 255) + "   ", ehlos}, {"", "EHLO " + strings.Repeat("a", 256), no501}, {"", "EHLO  " + strings.Repeat("a", 255), no501}, {"", "EHLO [1.2]", ehlos},
		{greetedBy, "EHLO c", ehlos}, {toBy, "HELO c", hi250},
		// MAIL.
		{"", "MAIL FROM:<a@b>", no503}, {"", "MAIL", no503}, {"", "MAIL FROM", no503}, {fromBy, "MAIL FROM:<a@b>", no503}, {fromBy, "MAIL", no503}, {toBy, "MAIL FROM:<>", no503},
		{greetedBy, "MAIL FROM:<a@b>", ok250}, {greetedBy, "MAIL FROM:<>", ok250}, {greetedBy, "mail from:<A@B>", ok250}, {greetedBy, "Mail FrOm:<a.b@c.d>", ok250}, {greetedBy, "MAIL FROM:<a@b>  ", ok250},
		{greetedBy, "MAIL", no501}, {greetedBy, "MAIL FROM:", no501}, {greetedBy, "MAIL FROM:a@b", no501}, {greetedBy, "MAIL FROM: <a@b>", no501}, {greetedBy, "MAIL  FROM:<a@b>", no501}, {greetedBy, "MAIL FROM <a@b>", no501}, {greetedBy, "MAIL FROM:<a@b", no501}, {greetedBy, "MAIL FROM:a@b>", no501}, {greetedBy, "MAIL FROM:<<a@b>>", no501}, {greetedBy, "MAIL FROM:<a@b>>", no501}, {greetedBy, "MAIL FROM:<a>", no501}, {greetedBy, "MAIL FROM:<@b>", no501}, {greetedBy, "MAIL FROM:< >", no501}, {greetedBy, "MAIL FROM:<a@b >", no501}, {greetedBy, "MAIL FROM:<N <a@b>>", no501}, {greetedBy, "MAIL FROM:<\"a\"@b>", no501}, {greetedBy, "MAIL FROM:<@c:a@b>", no501}, {greetedBy, "MAIL TO:<a@b>", no501}, {greetedBy, "MAIL FROM:<a@b>x", no501}, {greetedBy, "MAIL FROM:<a@b>SIZE=1", no501}, {greetedBy, "MAIL FRO", no501}, {greetedBy, "MAIL F", no501}, {greetedBy, "MAIL :<a@b>", no501}, {greetedBy, "MAIL FROM:<" + strings.Repeat("a", 65) + "@b>", no501}, {greetedBy, "MAIL FROM:<" + strings.Repeat("a", 64) + "@b>", ok250}, {greetedBy, "MAILFROM:<a@b>", no500},
		// Its words.
		{greetedBy, "MAIL FROM:<a@b> SIZE=100", ok250}, {greetedBy, "MAIL FROM:<a@b> SIZE=101", no552}, {greetedBy, "MAIL FROM:<a@b> SIZE=0", ok250}, {greetedBy, "MAIL FROM:<a@b> SIZE=000000100", ok250}, {greetedBy, "MAIL FROM:<a@b> SIZE=0000000100", no501}, {greetedBy, "MAIL FROM:<a@b> SIZE=999999999", no552}, {greetedBy, "MAIL FROM:<a@b> SIZE=1000000000", no501}, {greetedBy, "MAIL FROM:<> size=5", ok250}, {greetedBy, "MAIL FROM:<> Size=500", no552},
		{greetedBy, "MAIL FROM:<a@b> SIZE=", no501}, {greetedBy, "MAIL FROM:<a@b> SIZE", no501}, {greetedBy, "MAIL FROM:<a@b> SIZE=1a", no501}, {greetedBy, "MAIL FROM:<a@b> SIZE=-1", no501}, {greetedBy, "MAIL FROM:<a@b> SIZE=+1", no501}, {greetedBy, "MAIL FROM:<a@b> SIZE=1_0", no501}, {greetedBy, "MAIL FROM:<a@b> SIZE= 1", no501}, {greetedBy, "MAIL FROM:<a@b> SIZE=1.0", no501}, {greetedBy, "MAIL FROM:<a@b> SIZE=0x1", no501},
		{greetedBy, "MAIL FROM:<a@b> BODY=7BIT", ok250}, {greetedBy, "MAIL FROM:<a@b> BODY=8BITMIME", ok250}, {greetedBy, "MAIL FROM:<a@b> body=7bit", ok250}, {greetedBy, "MAIL FROM:<a@b> Body=8BitMime", ok250}, {greetedBy, "MAIL FROM:<a@b> BODY=", no501}, {greetedBy, "MAIL FROM:<a@b> BODY=8BIT", no501}, {greetedBy, "MAIL FROM:<a@b> BODY=BINARYMIME", no501}, {greetedBy, "MAIL FROM:<a@b> BODY=7BITX", no501}, {greetedBy, "MAIL FROM:<a@b> 8BITMIME", no501}, {greetedBy, "MAIL FROM:<a@b> AUTH=<>", no501},
		{greetedBy, "MAIL FROM:<a@b> SIZE=5 BODY=7BIT", ok250}, {greetedBy, "MAIL FROM:<a@b> BODY=7BIT SIZE=5  ", ok250}, {greetedBy, "MAIL FROM:<a@b>  SIZE=5", no501}, {greetedBy, "MAIL FROM:<a@b> SIZE=5  BODY=7BIT", no501}, {greetedBy, "MAIL FROM:<a@b> SIZE=5BODY=7BIT", no501}, {greetedBy, "MAIL FROM:<a@b> SIZE=5 SIZE=5 BODY=7BIT BODY=8BITMIME", ok250}, {greetedBy, "MAIL FROM:<a@b> SIZE=500 SIZE=5", no552}, {greetedBy, "MAIL FROM:<a@b> SIZE=5 SIZE=500", no552}, {greetedBy, "MAIL FROM:<a@b> SIZE=500 X", no501}, {greetedBy, "MAIL FROM:<a@b> X SIZE=500", no501}, {greetedBy, "MAIL FROM:<a> SIZE=500", no501},
		// RCPT.
		{"", "RCPT TO:<o@x>", no503}, {greetedBy, "RCPT TO:<o@x>", no503}, {greetedBy, "RCPT", no503}, {fromBy, "RCPT TO:<o@x>", ok250}, {fromBy, "RCPT TO:<O@X>", ok250}, {fromBy, "rcpt to:<Q.r@x.ORG> ", ok250}, {toBy, "RCPT TO:<p@x>", ok250}, {toBy, "RCPT TO:<o@x>", ok250},
		{fromBy, "RCPT TO:<a@b>", no550}, {fromBy, "RCPT TO:<o@x.org>", no550}, {fromBy, "RCPT TO:<oo@x>", no550},
		{fromBy, "RCPT", no501}, {fromBy, "RCPT TO:", no501}, {fromBy, "RCPT TO:<>", no501}, {fromBy, "RCPT TO:<o>", no501}, {fromBy, "RCPT TO: <o@x>", no501}, {fromBy, "RCPT  TO:<o@x>", no501}, {fromBy, "RCPT TO:o@x", no501}, {fromBy, "RCPT FROM:<o@x>", no501}, {fromBy, "RCPT TO:<o@x", no501}, {fromBy, "RCPT TO:<o@x>>", no501}, {fromBy, "RCPT TO:<o@x> SIZE=1", no501}, {fromBy, "RCPT TO:<o@x> x", no501}, {fromBy, "RCPT TO:<a@b> x", no501}, {fromBy, "RCPT TO:<Postmaster>", no501}, {fromBy, "RCPT TO", no501}, {fromBy, "RCPT T", no501},
		// DATA.
		{"", "DATA", no503}, {greetedBy, "DATA", no503}, {fromBy, "DATA", no503}, {fromBy, "DATA x", no503}, {toBy, "DATA x", no501}, {toBy, "DATA", ok354}, {toBy, "data   ", ok354},
		// Others.
		{"", "RSET", ok250}, {"", "rset ", ok250}, {toBy, "RSET", ok250}, {"", "RSET x", no501}, {"", "NOOP", ok250}, {"", "NOOP a b", ok250}, {"", "noop", ok250}, {"", "VRFY", ok252}, {"", "VRFY o@x", ok252}, {"", "vrfy  ", ok252}, {"", "QUIT", bye221}, {"", "quit  ", bye221}, {"", "QUIT x", no501}, {toBy, "QUIT", bye221},
		{"", "", no500}, {"", " ", no500}, {"", " QUIT", no500}, {"", "QUITX", no500}, {"", "QUI", no500}, {"", "HELP", no500}, {"", "EXPN", no500}, {"", "STARTTLS", no500}, {"", "AUTH PLAIN", no500}, {"", "BDAT 1", no500}, {"", "NOOP\tx", no500}, {"", "QUIT\t", no500}, {"", ".", no500}, {"", "HELO\x00c", no500}, {"", "NOOP é", no500},
	} {
		s := behind(t, c.before)
		put(t, s, c.line+"\r\n", c.want)
		if s.Over() != (c.want == bye221) {
			t.Errorf("%q: over %v", c.line, s.Over())
		}
		waitsNone(t, s)
		// The same behind an odd line, and said for a second time, if it does nothing.
		s = behind(t, c.before)
		put(t, s, "\x7f\r\n"+c.line+"\r\n", no500+c.want)
		if c.want[0] == '5' {
			put(t, s, c.line+"\r\n", c.want)
		}
	}
}

func TestEveryByte(t *testing.T) { // P16.2
	for c := range 256 {
		for _, text := range []string{"NOOP a" + string([]byte{byte(c)}) + "b", string([]byte{byte(c)}) + "NOOP", "NOOP " + string([]byte{byte(c)}), "NOOP" + string([]byte{byte(c)}) + "x"} {
			want := no500
			if c >= 32 && c <= 126 && (text[:5] == "NOOP ") {
				want = ok250
			}
			s := session(t)
			put(t, s, text+"\r\n", want)
			put(t, s, "NOOP\r\n", ok250)
		}
		// A recipient's address with each byte in it: of all bytes at most letters make it an owner.
		s := behind(t, fromBy)
		_, got := s.Put([]byte("RCPT TO:<" + string([]byte{byte(c)}) + "@x>\r\n"))
		want := no550
		switch {
		case c < 32 || c > 126:
			want = no500
		case strings.IndexByte("oOpP", byte(c)) >= 0:
			want = ok250
		case !addressPattern.MatchString(string([]byte{byte(c)}) + "@x"):
			want = no501
		}
		if got != want {
			t.Errorf("RCPT with %d: %q, not %q", c, got, want)
		}
	}
}

func TestBarePairs(t *testing.T) { // P16.2, P16.6
	for _, c := range []struct{ in, want string }{
		{"NOOP\r", ""}, {"NOOP\n", ""}, {"\r", ""}, {"\n", ""}, {"\n\r", ""}, {"", ""},
		{"NOOP\r\r\n", no500}, {"NOOP\n\r\n", no500}, {"NO\rOP\r\n", no500}, {"NO\nOP\r\n", no500}, {"NOOP\nNOOP\r\n", no500}, {"NOOP\rNOOP\r\n", no500}, {"\r\r\n", no500}, {"\n\r\n", no500}, {"\r\n", no500}, {"\r\n\r\n", no500 + no500}, {"\r\n\n", no500}, {"\r\n\n\r\n", no500 + no500}, {"NOOP\r\r\r\nNOOP\r\n", no500 + ok250}, {"QUIT\nQUIT\r\n", no500}, {"\nQUIT\r\n", no500}, {"\rQUIT\r\n", no500},
	} {
		put(t, session(t), c.in, c.want)
		put(t, behind(t, "NOOP\r\n"), c.in, c.want)
	}
	// Half a line waits for its other half.
	s := session(t)
	put(t, s, "NOO", "")
	put(t, s, "P\r", "")
	put(t, s, "", "")
	put(t, s, "\nNO", ok250)
	put(t, s, "OP\r\n", ok250)
}

func TestLongLines(t *testing.T) { // P16.2
	noop := func(n int) string { return "NOOP " + strings.Repeat("a", n-7) + "\r\n" }
	for _, c := range []struct{ in, want string }{
		{noop(511), ok250}, {noop(512), ok250}, {noop(513), no500}, {noop(514), no500}, {noop(1 << 20), no500},
		{noop(513) + noop(512) + noop(600) + "NOOP\r\n", no500 + ok250 + no500 + ok250},
		{"NOOP" + strings.Repeat(" ", 506) + "\r\n", ok250}, {"NOOP" + strings.Repeat(" ", 507) + "\r\n", no500},
		{strings.Repeat("\r", 1<<16) + "\n" + "NOOP\r\n", no500 + ok250}, {strings.Repeat("\n", 1<<16) + "\r\n" + "NOOP\r\n", no500 + ok250},
		{strings.Repeat("\r\n", 1000), strings.Repeat(no500, 1000)},
	} {
		put(t, session(t), c.in, c.want)
		s := session(t)
		got := ""
		for i := range len(c.in) {
			n, more := s.Put([]byte(c.in[i : i+1]))
			if n != 1 {
				t.Fatalf("one byte: %d", n)
			}
			got += more
			if cap(s.line) > 4*api.MaxCommand {
				t.Fatalf("%d bytes are held", cap(s.line))
			}
		}
		if got != c.want {
			t.Errorf("%.100q, by bytes: %.200q", c.in, got)
		}
	}
	// What stands behind the limit, or behind a byte that may not be, is no command of its own.
	for n := range 3 * api.MaxCommand {
		want := no500
		if n == 0 {
			want = bye221
		}
		put(t, session(t), strings.Repeat("a", n)+"QUIT\r\n", want)
		put(t, session(t), strings.Repeat("\x00", n)+"QUIT\r\n", want)
	}
	// What is too long is not held while it comes.
	s := session(t)
	put(t, s, strings.Repeat("a", 1<<20), "")
	if len(s.line) > 0 {
		t.Errorf("%d bytes are held", len(s.line))
	}
	put(t, s, strings.Repeat("a", 1<<20)+"\r", "")
	put(t, s, "\n", no500)
}

func TestSenderAndRecipientsGo(t *testing.T) { // P16.2
	for _, c := range []struct{ line, want string }{
		{"RSET", ok250}, {"HELO c", hi250}, {"EHLO c", ehlos},
	} {
		s := behind(t, toBy)
		put(t, s, c.line+"\r\n", c.want)
		put(t, s, "DATA\r\n", no503)
		put(t, s, "RCPT TO:<o@x>\r\n", no503)
		// It is still greeted; of those before nobody is left.
		put(t, s, "MAIL FROM:<c@d>\r\nRCPT TO:<p@x>\r\nDATA\r\n.\r\n", ok250+ok250+ok354)
		waits(t, s, "c@d", "p@x", "")
	}
	for _, line := range []string{"RSET x", "HELO", "EHLO", "NOOP", "VRFY", "QUIT x", "MAIL FROM:<>", "RCPT TO:<z@x>", "RCPT", "DATA x", "XXXX", "\x00", strings.Repeat("a", 600)} {
		s := behind(t, toBy+line+"\r\n")
		put(t, s, "DATA\r\n.\r\n", ok354)
		waits(t, s, "a@b", "o@x", "")
	}
	// RSET does not greet, and MAIL that is refused has no sender.
	put(t, behind(t, "RSET\r\n"), "MAIL FROM:<a@b>\r\n", no503)
	put(t, behind(t, "HELO\r\nEHLO\r\n"), "MAIL FROM:<a@b>\r\n", no503)
	put(t, behind(t, greetedBy+"MAIL FROM:<a@b> SIZE=101\r\n"), "RCPT TO:<o@x>\r\n", no503)
	put(t, behind(t, greetedBy+"MAIL FROM:<a>\r\n"), "RCPT TO:<o@x>\r\n", no503)
	put(t, behind(t, greetedBy+"MAIL FROM:<a> SIZE=101\r\n"), "MAIL FROM:<a@b>\r\n", ok250)
	// An empty sender is one.
	s := behind(t, greetedBy+"MAIL FROM:<>\r\n")
	put(t, s, "MAIL FROM:<a@b>\r\nRCPT TO:<o@x>\r\nDATA\r\n.\r\n", no503+ok250+ok354)
	waits(t, s, "", "o@x", "")
	// What is refused as a recipient is none.
	put(t, behind(t, fromBy+"RCPT TO:<z@x>\r\nRCPT TO:<>\r\n"), "DATA\r\n", no503)
}

func TestRecipients(t *testing.T) { // P16.2, P16.5
	var owners []string
	for i := range 20 {
		owners = append(owners, "p"+strconv.Itoa(i)+"@x")
	}
	s, _ := New("h.org", owners, 100)
	put(t, s, "HELO c\r\nMAIL FROM:<A@b>\r\n", hi250+ok250)
	// In the order in which they came, each once.
	for i := 15; i >= 0; i-- {
		put(t, s, "RCPT TO:<"+owners[i]+">\r\n", ok250)
		put(t, s, "RCPT TO:<"+strings.ToUpper(owners[i])+">\r\n", ok250)
	}
	put(t, s, "RCPT TO:<p16@x>\r\n", no452)
	put(t, s, "RCPT TO:<p0@x>\r\n", ok250)
	put(t, s, "RCPT TO:<z@x>\r\n", no550)
	put(t, s, "RCPT TO:<z>\r\n", no501)
	put(t, s, "DATA\r\n.\r\n", ok354)
	want := slices.Clone(owners[:16])
	slices.Reverse(want)
	waits(t, s, "a@b", strings.Join(want, " "), "")
	s.Answer(250)
	put(t, s, "MAIL FROM:<A@b>\r\nRCPT TO:<p19@x>\r\nDATA\r\n.\r\n", ok250+ok250+ok354)
	waits(t, s, "a@b", "p19@x", "")
}

func TestTexts(t *testing.T) { // P16.2, P16.3, P16.5
	long := strings.Repeat("a", 98)
	for _, c := range []struct{ frame, data, want string }{
		{".\r\n", "", ""}, {"t\r\n.\r\n", "t\r\n", ""}, {"..t\r\n.\r\n", ".t\r\n", ""}, {"..\r\n.\r\n", ".\r\n", ""}, {"QUIT\r\nRSET\r\n.\r\n", "QUIT\r\nRSET\r\n", ""}, {"\x00\xff\t\r\n.\r\n", "\x00\xff\t\r\n", ""}, {"\r\n\r\n.\r\n", "\r\n\r\n", ""},
		{long + "\r\n.\r\n", long + "\r\n", ""}, {"." + long + "\r\n.\r\n", long + "\r\n", ""}, {long[1:] + "\r\n.\r\n", long[1:] + "\r\n", ""},
		{long + "a\r\n.\r\n", "", no552}, {long + "\r\n\r\n.\r\n", "", no552}, {strings.Repeat("a\r\n", 34) + ".\r\n", "", no552}, {strings.Repeat("a\r\n", 1<<16) + ".\r\n", "", no552},
		{"\n.\r\n.\r\n", "", no554}, {"a\rb\r\n.\r\n", "", no554}, {"a\n.\n\r\n.\r\n", "", no554}, {".\n\r\n.\r\n", "", no554}, {strings.Repeat("a", 999) + "\r\n.\r\n", "", no554}, {strings.Repeat("a", 998) + "\r\n.\r\n", "", no552}, {strings.Repeat("a", 1<<20) + "\n\r\n.\r\n", "", no554}, {long + "a\r\n\n\r\n.\r\n", "", no554},
	} {
		s := behind(t, dataBy)
		if c.want == "" {
			put(t, s, c.frame, "")
			waits(t, s, "a@b", "o@x", c.data)
			continue
		}
		put(t, s, c.frame+"RCPT TO:<o@x>\r\nDATA\r\n", c.want+no503+no503)
		waitsNone(t, s)
		// Commands are taken then, and it is still greeted.
		put(t, s, "MAIL FROM:<>\r\nRCPT TO:<p@x>\r\nDATA\r\nt\r\n.\r\n", ok250+ok250+ok354)
		waits(t, s, "", "p@x", "t\r\n")
	}
	// Nothing is said, and none waits, while a frame comes.
	s := behind(t, dataBy)
	for _, piece := range []string{"a", "\r", "\n", ".", ".b\r\n", ".", "\r"} {
		put(t, s, piece, "")
		waitsNone(t, s)
		if _, e := s.Answer(250); e != api.ErrState || s.Over() {
			t.Errorf("Answer: %v", e)
		}
	}
	put(t, s, "\n", "")
	waits(t, s, "a@b", "o@x", "a\r\n.b\r\n")
	// Up to the greatest size.
	for _, size := range []int{1, 2, 3, 4, 65535, 65536} {
		s, _ := New("h.org", []string{"o@x"}, size)
		for _, n := range []int{size - 1, size, size + 1} {
			// No text has 1 byte.
			text := strings.Repeat("\r\n", n/2)
			if n > 2 && n%2 == 1 {
				text = "x" + text
			}
			s.Put([]byte(dataBy + text + ".\r\n"))
			if m, there := s.Waits(); there != (len(text) <= size) || there && string(m.Data) != text {
				t.Errorf("%d bytes of %d: %v", len(text), size, there)
			}
			s.Answer(250)
		}
	}
}

func TestPutStops(t *testing.T) { // P16.2
	s := session(t)
	text := dataBy + "t\r\n.\r\n"
	for range 2 {
		if n, got := s.Put([]byte(text + "QUIT\r\nx")); n != len(text) || got != ehlos+ok250+ok250+ok354 {
			t.Fatalf("Put: %d %q", n, got)
		}
		for range 2 {
			if n, got := s.Put([]byte("QUIT\r\n")); n != 0 || got != "" {
				t.Fatalf("Put, while one waits: %d %q", n, got)
			}
			waits(t, s, "a@b", "o@x", "t\r\n")
		}
		if got, e := s.Answer(250); got != ok250 || e != api.OK {
			t.Fatalf("Answer: %q %v", got, e)
		}
	}
	if n, got := s.Put([]byte("NOOP\r\nQUIT\r\nNOOP\r\n")); n != 12 || got != ok250+bye221 || !s.Over() {
		t.Fatalf("Put: %d %q", n, got)
	}
	for range 2 {
		if n, got := s.Put([]byte("NOOP\r\n")); n != 0 || got != "" || !s.Over() {
			t.Fatalf("Put, when it is over: %d %q", n, got)
		}
		if got, e := s.Answer(250); got != "" || e != api.ErrState {
			t.Fatalf("Answer, when it is over: %q %v", got, e)
		}
		waitsNone(t, s)
	}
	if s.Hello() != hi220 {
		t.Errorf("Hello: %q", s.Hello())
	}
}

func TestAnswer(t *testing.T) { // P16.3
	s := behind(t, dataBy+"t\r\n.\r\n")
	for _, code := range []int{math.MinInt, -250, -1, 0, 1, 100, 199, 600, 999, 1250, math.MaxInt} {
		if got, e := s.Answer(code); got != "" || e != api.ErrArg {
			t.Errorf("Answer(%d): %q %v", code, got, e)
		}
		waits(t, s, "a@b", "o@x", "t\r\n")
	}
	for code := 200; code <= 599; code++ {
		s := behind(t, dataBy+".\r\n")
		want := strconv.Itoa(code) + " no\r\n"
		switch {
		case code == 220 || code == 221:
			want = strconv.Itoa(code) + " h.org\r\n"
		case code < 400:
			want = strconv.Itoa(code) + " ok\r\n"
		}
		if got, e := s.Answer(code); got != want || e != api.OK || s.Over() {
			t.Errorf("Answer(%d): %q %v", code, got, e)
		}
		waitsNone(t, s)
		if got, e := s.Answer(code); got != "" || e != api.ErrState {
			t.Errorf("Answer(%d), again: %q %v", code, got, e)
		}
		// Sender and recipients are gone, and commands are taken.
		put(t, s, "RCPT TO:<o@x>\r\nDATA\r\nMAIL FROM:<>\r\n", no503+no503+ok250)
	}
	for _, text := range []string{"", greetedBy, toBy, dataBy, dataBy + "t\r\n", "QUIT\r\n", dataBy + "\n\r\n.\r\n"} {
		for _, code := range []int{250, 0, -1, 600} {
			if got, e := behind(t, text).Answer(code); got != "" || e != api.ErrState {
				t.Errorf("Answer behind %q: %q %v", text, got, e)
			}
		}
	}
}

// told is what a session tells of bytes: all replies, the mails that waited, and how many bytes it took.
type told struct {
	out   string
	mails []api.Mail
	taken int
	over  bool
}

// codes are what the mails that wait are answered, in turn.
var codes = []int{250, 451, 452, 220}

// play puts bytes in, piece by piece, and answers the mails that wait.
func play(t testing.TB, s *Server, pieces ...string) told {
	t.Helper()
	var all told
	for _, piece := range pieces {
		for {
			n, out := s.Put([]byte(piece))
			all.out += out
			all.taken += n
			piece = piece[n:]
			m, there := s.Waits()
			if !there {
				break
			}
			all.mails = append(all.mails, m)
			out, e := s.Answer(codes[(len(all.mails)-1)%len(codes)])
			if e != api.OK {
				t.Fatalf("Answer: %v", e)
			}
			all.out += out
		}
		if piece != "" && !s.Over() {
			t.Fatalf("%q is left", piece)
		}
	}
	all.over = s.Over()
	return all
}

func sameTold(a, b told) bool {
	return a.out == b.out && a.taken == b.taken && a.over == b.over && slices.EqualFunc(a.mails, b.mails, sameMail)
}

var (
	commandPattern = regexp.MustCompile(`\A([!-~]*)(?: ([ -~]*?))? *\z`)
	fromPattern    = regexp.MustCompile(`(?i)\AFROM:<([^>]*)>((?: (?:SIZE=[0-9]{1,9}|BODY=7BIT|BODY=8BITMIME))*)\z`)
	toPattern      = regexp.MustCompile(`(?i)\ATO:<([^>]+)>\z`)
	sizePattern    = regexp.MustCompile(`(?i)SIZE=([0-9]+)`)
	addressPattern = regexp.MustCompile(`\A([A-Za-z0-9!#$%&'*+/=?^_{|}` + "`" + `-]+(?:\.[A-Za-z0-9!#$%&'*+/=?^_{|}` + "`" + `-]+)*)@((?:[A-Za-z0-9](?:[A-Za-z0-9-]{0,61}[A-Za-z0-9])?)(?:\.[A-Za-z0-9](?:[A-Za-z0-9-]{0,61}[A-Za-z0-9])?)*)\z`)
)

// slowAddress tells whether a text is an address.
func slowAddress(s string) bool {
	m := addressPattern.FindStringSubmatch(s)
	return m != nil && len(m[1]) <= 64 && len(m[2]) <= 253
}

// slowServer is a session that has all its bytes at once.
type slowServer struct {
	host    string
	owners  []string
	size    int
	greeted bool
	from    *string
	to      []string
}

// line is the reply to a command that may be, the text of which is wanted behind 354.
func (s *slowServer) line(line string) string {
	m := commandPattern.FindStringSubmatch(line)
	if m == nil || len(line)+2 > 512 {
		return no500
	}
	verb, rest := strings.ToUpper(m[1]), m[2]
	switch verb {
	case "HELO", "EHLO":
		if len(rest) < 1 || len(rest) > 255 {
			return no501
		}
		s.greeted, s.from, s.to = true, nil, nil
		if verb == "HELO" {
			return "250 " + s.host + "\r\n"
		}
		return "250-" + s.host + "\r\n250-SIZE " + strconv.Itoa(s.size) + "\r\n250-8BITMIME\r\n250 PIPELINING\r\n"
	case "MAIL":
		return s.mail(rest)
	case "RCPT":
		return s.rcpt(rest)
	case "DATA":
		if len(s.to) == 0 {
			return no503
		}
		if rest != "" {
			return no501
		}
		return ok354
	case "RSET":
		if rest != "" {
			return no501
		}
		s.from, s.to = nil, nil
		return ok250
	case "NOOP":
		return ok250
	case "VRFY":
		return ok252
	case "QUIT":
		if rest != "" {
			return no501
		}
		return "221 " + s.host + "\r\n"
	}
	return no500
}

func (s *slowServer) mail(rest string) string {
	if !s.greeted || s.from != nil {
		return no503
	}
	m := fromPattern.FindStringSubmatch(rest)
	if m == nil || m[1] != "" && !slowAddress(m[1]) {
		return no501
	}
	for _, size := range sizePattern.FindAllStringSubmatch(m[2], -1) {
		if n, _ := strconv.Atoi(size[1]); n > s.size {
			return no552
		}
	}
	person := strings.ToLower(m[1])
	s.from = &person
	return ok250
}

func (s *slowServer) rcpt(rest string) string {
	if s.from == nil {
		return no503
	}
	m := toPattern.FindStringSubmatch(rest)
	if m == nil || !slowAddress(m[1]) {
		return no501
	}
	person := strings.ToLower(m[1])
	switch {
	case !slices.Contains(s.owners, person):
		return no550
	case slices.Contains(s.to, person):
		return ok250
	case len(s.to) >= 16:
		return no452
	}
	s.to = append(s.to, person)
	return ok250
}

// frame takes a frame off a text: its text, its error, and what is left.
func (s *slowServer) frame(text string) (string, api.Errno, string, bool) {
	data, bare, wide := "", false, false
	for {
		line, rest, found := strings.Cut(text, "\r\n")
		if !found {
			return "", api.OK, "", false
		}
		text = rest
		if line == "." {
			break
		}
		bare = bare || strings.ContainsAny(line, "\r\n")
		wide = wide || len(line) > 999 || len(strings.TrimPrefix(line, ".")) > 998
		data += strings.TrimPrefix(line, ".") + "\r\n"
	}
	switch {
	case bare || wide:
		return "", api.ErrBare, text, true
	case len(data) > s.size:
		return "", api.ErrLong, text, true
	}
	return data, api.OK, text, true
}

// slowPlay is what play must tell.
func slowPlay(s *slowServer, text string) told {
	var all told
	whole := len(text)
	for {
		line, rest, found := strings.Cut(text, "\r\n")
		if !found {
			all.taken = whole
			return all
		}
		text = rest
		reply := s.line(line)
		all.out += reply
		if strings.HasPrefix(reply, "221") {
			all.taken, all.over = whole-len(text), true
			return all
		}
		if reply != ok354 {
			continue
		}
		data, e, rest, found := s.frame(text)
		if !found {
			all.taken = whole
			return all
		}
		text = rest
		switch e {
		case api.OK:
			all.mails = append(all.mails, api.Mail{From: *s.from, To: s.to, Data: []byte(data)})
			all.out += []string{ok250, "451 no\r\n", no452, "220 " + s.host + "\r\n"}[(len(all.mails)-1)%4]
		case api.ErrLong:
			all.out += no552
		default:
			all.out += no554
		}
		s.from, s.to = nil, nil
	}
}

// slow is the slow session like session's.
func slow() *slowServer {
	return &slowServer{host: "h.org", owners: []string{"o@x", "p@x", "q.r@x.org"}, size: 100}
}

// samples are whole sessions.
var samples = []string{
	dataBy + "t\r\n.\r\nQUIT\r\n",
	dataBy + "..\r\n.t\r\n\r\n.\r\nMAIL FROM:<>\r\nRCPT TO:<P@X>\r\nRCPT TO:<o@x>\r\nRCPT TO:<p@x>\r\nDATA\r\n.\r\nNOOP x\r\nQUIT\r\nNOOP\r\n",
	"\r\n\n\r\r\nHELO c\r\nMAIL FROM:<a@b> SIZE=7 BODY=8bitmime\r\nRCPT TO:<z@x>\r\nDATA\r\nRCPT TO:<q.R@x.org>\r\nDATA\r\na\nb\r\n.\r\nRSET\r\nVRFY\r\n",
	toBy + "DATA x\r\ndata\r\n" + strings.Repeat("abc\r\n", 21) + ".\r\nMAIL FROM:<a@b>\r\n",
	"XXXX\r\nNOOP\nNOOP\r\nHELO \r\nHELO\x00\r\nQUIT now\r\nquit\r\n",
}

func TestCuts(t *testing.T) { // P16.4, P16.6, P4
	for _, text := range samples {
		want := slowPlay(slow(), text)
		if got := play(t, session(t), text); !sameTold(got, want) {
			t.Fatalf("%q: %+v, not %+v", text, got, want)
		}
		if got := play(t, session(t), strings.Split(text, "")...); !sameTold(got, want) {
			t.Fatalf("%q, by bytes: %+v, not %+v", text, got, want)
		}
		for i := range len(text) {
			for j := i; j <= len(text); j++ {
				if got := play(t, session(t), text[:i], text[i:j], text[j:]); !sameTold(got, want) {
					t.Fatalf("%q, cut at %d and %d: %+v, not %+v", text, i, j, got, want)
				}
			}
		}
	}
	// A reply comes with the last byte of its line, and none ahead of it.
	s := session(t)
	for i, text := 0, samples[2]; i < len(text); i++ {
		_, out := s.Put([]byte{text[i]})
		whole := text[i] == '\n' && i > 0 && text[i-1] == '\r'
		if out != "" && !whole {
			t.Fatalf("behind %q: %q", text[:i+1], out)
		}
	}
}

// pieces are what sessions are made of.
var pieces = []string{
	"HELO c\r\n", "EHLO c\r\n", greetedBy, "MAIL FROM:<a@b>\r\n", "MAIL FROM:<>\r\n", "mail from:<A.C@b.org> SIZE=50 body=7BIT\r\n", "MAIL FROM:<a@b> SIZE=999\r\n", "MAIL FROM:<a>\r\n", "RCPT TO:<o@x>\r\n", "RCPT TO:<P@x>\r\n", "RCPT TO:<q.r@X.org>\r\n", "RCPT TO:<z@x>\r\n", "RCPT TO:<>\r\n", "DATA\r\n", "DATA\r\n", "DATA x\r\n",
	"t\r\n.\r\n", ".\r\n", "..a\r\n", ".a\r\n", "a\nb\r\n", "\r\n", "\n", "\r", ".", " ", "NOOP\r\n", "NOOP x\r\n", "VRFY\r\n", "RSET\r\n", "RSET x\r\n", "XXXX\r\n", "\x00", "\xff\r\n", "a",
	fromBy, toBy, dataBy, dataBy, dataBy + ".\r\n", strings.Repeat("a", 60) + "\r\n", strings.Repeat("a", 505) + "\r\n", strings.Repeat("a", 1000) + "\r\n.\r\n", "QUIT \r\n",
}

func TestManySessions(t *testing.T) { // P16.2, P16.4, P16.5, P16.6
	counts := map[string]int{}
	mails := 0
	for seed := range int64(20000) {
		r := rand.New(rand.NewSource(seed))
		var text strings.Builder
		for range r.Intn(25) {
			text.WriteString(pieces[r.Intn(len(pieces))])
		}
		all := text.String()
		want := slowPlay(slow(), all)
		var cut []string
		for rest := all; rest != ""; {
			n := 1 + r.Intn(min(len(rest), 40))
			cut = append(cut, rest[:n])
			rest = rest[n:]
		}
		if got := play(t, session(t), all); !sameTold(got, want) {
			t.Fatalf("%q: %+v, not %+v", all, got, want)
		}
		got := play(t, session(t), cut...)
		if !sameTold(got, want) {
			t.Fatalf("%q: %+v, not %+v", cut, got, want)
		}
		for _, m := range got.mails {
			mails++
			seen := map[string]int{}
			for _, to := range m.To {
				seen[to]++
				if seen[to] > 1 || !slices.Contains([]string{"o@x", "p@x", "q.r@x.org"}, to) {
					t.Fatalf("%q: recipients %q", all, m.To)
				}
			}
			if len(m.To) == 0 || len(m.Data) > 100 || dots.Right(m.Data).Code != api.OK {
				t.Fatalf("%q: the mail %+v", all, m)
			}
		}
		for line := range strings.Lines(got.out) {
			counts[line[:3]]++
		}
	}
	for _, code := range []string{"220", "221", "250", "252", "354", "451", "452", "500", "501", "503", "550", "552", "554"} {
		if counts[code] == 0 {
			t.Errorf("none was told %s", code)
		}
	}
	if mails < 1000 {
		t.Errorf("%d mails", mails)
	}
}

func TestCommandsByChance(t *testing.T) { // P16.2
	words := []string{"HELO", "EHLO", "MAIL", "RCPT", "DATA", "QUIT", "RSET", "NOOP", "VRFY", "mail", "rcpt", "FROM:", "from:", "TO:", "to:", "<", ">", "a@b", "o@x", "O@X", "p@x", "a", "@", ".", " ", " ", " ", "SIZE=", "size=", "5", "500", "0", "9999", "BODY=", "7BIT", "8bitmime", "=", ":", "<a@b>", "<o@x>", "FROM:<a@b>", "TO:<o@x>"}
	for seed := range int64(200000) {
		r := rand.New(rand.NewSource(seed))
		text := []string{"", greetedBy, fromBy, toBy}[r.Intn(4)]
		for range r.Intn(9) {
			text += words[r.Intn(len(words))]
		}
		text += "\r\n"
		want := slowPlay(slow(), text)
		if got := play(t, session(t), text); !sameTold(got, want) {
			t.Fatalf("%q: %+v, not %+v", text, got, want)
		}
	}
}

func TestOneReplyEach(t *testing.T) { // P16.6
	reply := regexp.MustCompile(`\A(?:[0-9]{3}-[^\r\n]*\r\n)*[0-9]{3} [^\r\n]*\r\n\z`)
	for _, text := range pieces {
		for _, before := range []string{"", greetedBy, fromBy, toBy} {
			line, rest, found := strings.Cut(text, "\r\n")
			if !found || rest != "" {
				continue
			}
			s := behind(t, before)
			if _, out := s.Put([]byte(line)); out != "" {
				t.Errorf("%q: %q", line, out)
			}
			if _, out := s.Put([]byte("\r\n")); !reply.MatchString(out) {
				t.Errorf("%q: %q", line, out)
			}
		}
	}
}

func TestNothingIsChangedOrKept(t *testing.T) { // Rules 4 and 5
	room := []string{"o@x", "p@x", "q@x"}
	s, _ := New("h.org", room[:2], 100)
	clear(room)
	text := []byte(dataBy + "t\r\n.\r\nX")
	whole := slices.Clone(text)
	if n, _ := s.Put(text[:len(text)-1]); n != len(text)-1 || !bytes.Equal(text, whole) {
		t.Fatalf("Put: %d %q", n, text)
	}
	clear(text)
	for range 2 {
		m, _ := s.Waits()
		if !sameMail(m, api.Mail{From: "a@b", To: []string{"o@x"}, Data: []byte("t\r\n")}) {
			t.Errorf("Waits: %+v", m)
		}
		clear(m.To[:cap(m.To)])
		clear(m.Data[:cap(m.Data)])
	}
	s.Answer(250)
	// q@x stood behind the owners' end.
	put(t, s, fromBy+"RCPT TO:<q@x>\r\nRCPT TO:<p@x>\r\n", ehlos+ok250+no550+ok250)
	// A piece of a line that is changed when it was put in.
	piece := []byte("NO")
	s.Put(piece)
	clear(piece)
	put(t, s, "OP\r\n", ok250)
}

func TestSessionsAreApart(t *testing.T) { // Rule 7
	a, b := session(t), session(t)
	put(t, a, dataBy+"t\r\n", ehlos+ok250+ok250+ok354)
	put(t, b, "DATA\r\nNO", no503)
	put(t, a, ".\r\n", "")
	put(t, b, "OP\r\n", ok250)
	waits(t, a, "a@b", "o@x", "t\r\n")
	waitsNone(t, b)
}

func TestNothingIsHeld(t *testing.T) { // P16.3: what is over leaves nothing behind
	s := session(t)
	play(t, s, dataBy+"t\r\n.\r\n"+"RSET\r\n")
	fresh := session(t)
	fresh.greeted = true
	if !reflect.DeepEqual(s, fresh) {
		t.Errorf("%+v, not %+v", s, fresh)
	}
}

func TestAllEnds(t *testing.T) { // P1
	r := rand.New(rand.NewSource(1))
	for range 3000 {
		b := make([]byte, r.Intn(2000))
		r.Read(b)
		for i := range b {
			if r.Intn(4) == 0 {
				b[i] = "\r\n. <>@:"[r.Intn(8)]
			}
		}
		s := session(t)
		s.Put([]byte([]string{"", toBy, dataBy}[r.Intn(3)]))
		play(t, s, string(b))
		s.Put(nil)
		s.Answer(r.Intn(1000) - 200)
	}
}

// serveLine takes what comes over a line into a session, and says its replies.
func serveLine(s *Server, line net.Conn, mails chan<- api.Mail) {
	defer close(mails)
	defer line.Close()
	io.WriteString(line, s.Hello())
	buffer := make([]byte, 7)
	for !s.Over() {
		n, err := line.Read(buffer)
		if err != nil {
			return
		}
		for b := buffer[:n]; len(b) > 0 && !s.Over(); {
			taken, out := s.Put(b)
			b = b[taken:]
			if m, there := s.Waits(); there {
				mails <- m
				more, _ := s.Answer(250)
				out += more
			}
			// A pipe waits for who reads, of nothing, too.
			if out != "" {
				io.WriteString(line, out)
			}
		}
	}
}

func TestAgainstTheLibrary(t *testing.T) { // P16.2, P16.3
	for _, text := range []string{"Subject: s\r\n\r\n.\r\n..\r\n.a\r\nend\r\n", "\r\n", "é\r\n"} {
		near, far := net.Pipe()
		near.SetDeadline(time.Now().Add(time.Minute))
		mails := make(chan api.Mail, 1)
		go serveLine(session(t), far, mails)
		c, err := smtp.NewClient(near, "h.org")
		if err != nil {
			t.Fatal(err)
		}
		steps := []error{c.Hello("me"), c.Mail("A@b.org"), c.Rcpt("o@x"), c.Rcpt("P@X")}
		if c.Rcpt("z@x") == nil {
			t.Error("z@x was taken")
		}
		w, err := c.Data()
		if err != nil {
			t.Fatal(err)
		}
		_, err = io.WriteString(w, text)
		steps = append(steps, err, w.Close(), c.Noop(), c.Quit())
		for i, err := range steps {
			if err != nil {
				t.Errorf("step %d: %v", i, err)
			}
		}
		if m := <-mails; !sameMail(m, api.Mail{From: "a@b.org", To: []string{"o@x", "p@x"}, Data: []byte(text)}) {
			t.Errorf("the mail: %+v", m)
		}
		if _, more := <-mails; more {
			t.Error("one more mail")
		}
	}
}
