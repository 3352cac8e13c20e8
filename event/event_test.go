package event

import (
	"math"
	"math/rand"
	"reflect"
	"regexp"
	"slices"
	"strconv"
	"strings"
	"testing"
	"time"
	"unicode/utf8"

	"posthorn/api"
	"posthorn/tree"
)

const (
	last   = 253402300799
	layout = "20060102T150405Z"
)

var (
	nothing = api.Message{}
	blank   = api.Comp{}
)

// some is so many times a text.
func some(s string, n int) string { return strings.Repeat(s, n) }

// line is a line, with its parameters' Names and Values in turn.
func line(name, value string, l ...string) api.Line {
	out := api.Line{Name: name, Value: value}
	for at := 0; at < len(l); at += 2 {
		out.Params = append(out.Params, api.Param{Name: l[at], Value: l[at+1]})
	}
	return out
}

// bare is a message with no more than it must have.
func bare() api.Message {
	return api.Message{Method: "M", UID: "u", Recur: -1, Start: -1, End: -1}
}

// full is a message that has everything.
func full() api.Message {
	return api.Message{Method: "REQUEST", UID: "u-1@x", Seq: 7, Stamp: 1709164800, Recur: 60, Organizer: "o@x.org",
		Attendees: []api.Attendee{{Addr: "a@x", Part: "ACCEPTED"}, {Addr: "b@x", Part: "NEEDS-ACTION"}},
		Start:     0, End: 3600, Summary: "a;b,c\\d\ne\tf", Comment: "é €"}
}

// with is a message that is changed.
func with(m api.Message, change func(m *api.Message)) api.Message {
	change(&m)
	return m
}

// people is so many attendees, each another one.
func people(n int) []api.Attendee {
	var out []api.Attendee
	for i := range n {
		out = append(out, api.Attendee{Addr: "p" + strconv.Itoa(i) + "@x", Part: "TENTATIVE"})
	}
	return out
}

// same tells whether messages are alike, with lists that are nil or empty, too.
func same(a, b api.Message) bool {
	if !slices.Equal(a.Attendees, b.Attendees) {
		return false
	}
	a.Attendees, b.Attendees = nil, nil
	return reflect.DeepEqual(a, b)
}

// sameComp is the same of components.
func sameComp(a, b api.Comp) bool {
	lines := func(a, b api.Line) bool {
		return a.Name == b.Name && a.Value == b.Value && slices.Equal(a.Params, b.Params)
	}
	return a.Name == b.Name && slices.EqualFunc(a.Lines, b.Lines, lines) && slices.EqualFunc(a.Comps, b.Comps, sameComp)
}

var (
	methodPattern = regexp.MustCompile(`\A[A-Z]{1,32}\z`)
	uidPattern    = regexp.MustCompile(`\A[!-+\--:<-\[\]-~]{1,200}\z`)
	// personPattern is an address with small letters; its lengths are held apart.
	personPattern = regexp.MustCompile(`\A([a-z0-9!#$%&'*+/=?^_{|}` + "`" + `-]+(?:\.[a-z0-9!#$%&'*+/=?^_{|}` + "`" + `-]+)*)@((?:[a-z0-9](?:[a-z0-9-]{0,61}[a-z0-9])?)(?:\.[a-z0-9](?:[a-z0-9-]{0,61}[a-z0-9])?)*)\z`)
	answerPattern = regexp.MustCompile(`\A(?:NEEDS-ACTION|ACCEPTED|DECLINED|TENTATIVE)\z`)
	textPattern   = regexp.MustCompile(`\A[^\x00-\x08\x0b-\x1f\x7f]*\z`)
	seqPattern    = regexp.MustCompile(`\A(?:0|[1-9][0-9]*)\z`)
	spanPattern   = regexp.MustCompile(`\A([+-]?)P(?:([0-9]{1,10})W|([0-9]{1,10})D(?:T([0-9HMS]+))?|T([0-9HMS]+))\z`)
	clockPattern  = regexp.MustCompile(`\A(?:([0-9]{1,10})H)?(?:([0-9]{1,10})M)?(?:([0-9]{1,10})S)?\z`)
	gapPattern    = regexp.MustCompile(`\A[0-9]+H[0-9]+S\z`)
	schemePattern = regexp.MustCompile(`\A[mM][aA][iI][lL][tT][oO]:`)
	largeLetter   = regexp.MustCompile(`[A-Z]`)
	smallLetter   = regexp.MustCompile(`[a-z]`)
	escapePattern = regexp.MustCompile(`\A(?:[^\\;,\n]|\\[\\;,nN])*\z`)
)

func slowPerson(s string) bool {
	m := personPattern.FindStringSubmatch(s)
	return m != nil && len(m[1]) <= 64 && len(m[2]) <= 253
}

func slowTime(t int64) bool { return t >= 0 && t <= last }

// slowRight is what Right must answer.
func slowRight(m api.Message) bool {
	for i, a := range m.Attendees {
		for _, b := range m.Attendees[:i] {
			if a.Addr == b.Addr {
				return false
			}
		}
		if !slowPerson(a.Addr) || !answerPattern.MatchString(a.Part) {
			return false
		}
	}
	for _, s := range []string{m.Summary, m.Comment} {
		if len(s) > 1000 || !utf8.ValidString(s) || !textPattern.MatchString(s) {
			return false
		}
	}
	if m.End != -1 && (m.Start == -1 || m.End <= m.Start || !slowTime(m.End)) {
		return false
	}
	return methodPattern.MatchString(m.Method) && uidPattern.MatchString(m.UID) && m.Seq >= 0 && int64(m.Seq) <= 2147483647 &&
		slowTime(m.Stamp) && (m.Recur == -1 || slowTime(m.Recur)) && (m.Start == -1 || slowTime(m.Start)) &&
		(m.Organizer == "" || slowPerson(m.Organizer)) && len(m.Attendees) <= 32
}

// slowPrint writes a time by the library.
func slowPrint(t int64) string { return time.Unix(t, 0).UTC().Format(layout) }

// slowEscape escapes a text.
func slowEscape(s string) string {
	return strings.NewReplacer(`\`, `\\`, `;`, `\;`, `,`, `\,`, "\n", `\n`).Replace(s)
}

// slowWrite is a message's calendar.
func slowWrite(m api.Message) api.Comp {
	l := []api.Line{line("UID", m.UID), line("SEQUENCE", strconv.Itoa(m.Seq)), line("DTSTAMP", slowPrint(m.Stamp))}
	if m.Recur != -1 {
		l = append(l, line("RECURRENCE-ID", slowPrint(m.Recur)))
	}
	if m.Organizer != "" {
		l = append(l, line("ORGANIZER", "mailto:"+m.Organizer))
	}
	for _, a := range m.Attendees {
		l = append(l, line("ATTENDEE", "mailto:"+a.Addr, "PARTSTAT", a.Part))
	}
	if m.Start != -1 {
		l = append(l, line("DTSTART", slowPrint(m.Start)))
	}
	if m.End != -1 {
		l = append(l, line("DTEND", slowPrint(m.End)))
	}
	if m.Summary != "" {
		l = append(l, line("SUMMARY", slowEscape(m.Summary)))
	}
	if m.Comment != "" {
		l = append(l, line("COMMENT", slowEscape(m.Comment)))
	}
	head := []api.Line{line("VERSION", "2.0"), line("PRODID", "posthorn"), line("METHOD", m.Method)}
	return api.Comp{Name: "VCALENDAR", Lines: head, Comps: []api.Comp{{Name: "VEVENT", Lines: l}}}
}

// slowSpan reads a length.
func slowSpan(s string) (int64, bool) {
	m := spanPattern.FindStringSubmatch(s)
	if m == nil {
		return 0, false
	}
	number := func(s string) int64 { n, _ := strconv.ParseInt("0"+s, 10, 64); return n }
	n := number(m[2])*604800 + number(m[3])*86400
	if clock := m[4] + m[5]; clock != "" {
		c := clockPattern.FindStringSubmatch(clock)
		if c == nil || gapPattern.MatchString(clock) {
			return 0, false
		}
		n += number(c[1])*3600 + number(c[2])*60 + number(c[3])
	}
	if n > 1<<40 {
		return 0, false
	}
	if m[1] == "-" {
		n = -n
	}
	return n, true
}

// slowParse reads a time by the library, which is held against what it writes.
func slowParse(s string) (int64, bool) {
	at, err := time.Parse(layout, s)
	t := at.Unix()
	return t, err == nil && slowTime(t) && slowPrint(t) == s
}

// slowRead is what Read must answer: what the lines say is gathered by their Names first.
func slowRead(c api.Comp) (api.Message, bool) {
	var head, body = map[string][]api.Line{}, map[string][]api.Line{}
	for _, l := range c.Lines {
		head[l.Name] = append(head[l.Name], l)
	}
	events := 0
	for _, q := range c.Comps {
		if q.Name != "VEVENT" {
			continue
		}
		events++
		for _, l := range q.Lines {
			body[l.Name] = append(body[l.Name], l)
		}
	}
	if c.Name != "VCALENDAR" || events != 1 || len(head["VERSION"]) != 1 || head["VERSION"][0].Value != "2.0" || len(head["METHOD"]) != 1 || len(body["UID"]) != 1 || len(body["DTSTAMP"]) != 1 {
		return nothing, false
	}
	for _, name := range []string{"SEQUENCE", "RECURRENCE-ID", "ORGANIZER", "DTSTART", "DTEND", "DURATION", "SUMMARY", "COMMENT"} {
		if len(body[name]) > 1 {
			return nothing, false
		}
	}
	if len(body["DURATION"]) == 1 && (len(body["DTEND"]) == 1 || len(body["DTSTART"]) == 0) {
		return nothing, false
	}
	m, right := slowSay(head["METHOD"][0].Value, body)
	return m, right && slowRight(m)
}

func capitals(s string) string { return smallLetter.ReplaceAllStringFunc(s, strings.ToUpper) }

// slowAddress reads a person behind mailto:.
func slowAddress(s string) (string, bool) {
	if !schemePattern.MatchString(s) {
		return "", false
	}
	p := largeLetter.ReplaceAllStringFunc(s[7:], strings.ToLower)
	return p, slowPerson(p)
}

// slowSay is what lines say, none of which there is more than once but ATTENDEE.
func slowSay(method string, body map[string][]api.Line) (api.Message, bool) {
	m := api.Message{Method: capitals(method), UID: body["UID"][0].Value, Recur: -1, Start: -1, End: -1}
	right := true
	note := func(found bool) { right = right && found }
	for name, place := range map[string]*int64{"DTSTAMP": &m.Stamp, "RECURRENCE-ID": &m.Recur, "DTSTART": &m.Start, "DTEND": &m.End} {
		for _, l := range body[name] {
			t, found := slowParse(l.Value)
			*place = t
			note(found)
		}
	}
	for _, l := range body["DURATION"] {
		n, found := slowSpan(l.Value)
		m.End = m.Start + n
		note(found)
	}
	for name, place := range map[string]*string{"SUMMARY": &m.Summary, "COMMENT": &m.Comment} {
		for _, l := range body[name] {
			*place = strings.NewReplacer(`\\`, `\`, `\;`, `;`, `\,`, `,`, `\n`, "\n", `\N`, "\n").Replace(l.Value)
			note(escapePattern.MatchString(l.Value) || !utf8.ValidString(l.Value))
		}
	}
	for _, l := range body["SEQUENCE"] {
		note(seqPattern.MatchString(l.Value))
		n, err := strconv.Atoi(l.Value)
		m.Seq = n
		note(err == nil)
	}
	for _, l := range body["ORGANIZER"] {
		p, found := slowAddress(l.Value)
		m.Organizer = p
		note(found)
	}
	for _, l := range body["ATTENDEE"] {
		p, found := slowAddress(l.Value)
		part := "NEEDS-ACTION"
		for i := range l.Params {
			if p := l.Params[len(l.Params)-1-i]; p.Name == "PARTSTAT" {
				part = capitals(p.Value)
			}
		}
		m.Attendees = append(m.Attendees, api.Attendee{Addr: p, Part: part})
		note(found)
	}
	return m, right
}

// checkMessage holds Right and Write of a message against the slow ones, and reads what is written, also as bytes.
func checkMessage(t *testing.T, m api.Message) bool {
	t.Helper()
	right := slowRight(m)
	if Right(m) != right {
		t.Fatalf("Right(%+v): %v", m, !right)
	}
	c, e := Write(m)
	if !right {
		if e != api.ErrEvent || !reflect.DeepEqual(c, blank) {
			t.Fatalf("Write(%+v): %q %v", m, c, e)
		}
		return false
	}
	if e != api.OK || !sameComp(c, slowWrite(m)) {
		t.Fatalf("Write(%+v): %q %v, not %q", m, c, e, slowWrite(m))
	}
	if back, e := Read(c); e != api.OK || !same(back, m) { // P13.4
		t.Fatalf("Read(%q): %+v %v, not %+v", c, back, e, m)
	}
	b, e := tree.Write(c)
	if e != api.OK {
		t.Fatalf("%q can't be written: %v", c, e)
	}
	d, e := tree.Read(b)
	if back, f := Read(d); e != api.OK || f != api.OK || !same(back, m) {
		t.Fatalf("Read of %q: %+v %v, not %+v", b, back, f, m)
	}
	return true
}

// checkComp holds Read of a component against the slow one, and writes what is read.
func checkComp(t *testing.T, c api.Comp) bool {
	t.Helper()
	want, right := slowRead(c)
	m, e := Read(c)
	if !right {
		if e != api.ErrEvent || !reflect.DeepEqual(m, nothing) {
			t.Fatalf("Read(%.300q): %+v %v", c, m, e)
		}
		return false
	}
	if e != api.OK || !same(m, want) {
		t.Fatalf("Read(%.300q): %+v %v, not %+v", c, m, e, want)
	}
	if !checkMessage(t, m) { // P13.5
		t.Fatalf("Read(%.300q): %+v may not be", c, m)
	}
	return true
}

func TestExamples(t *testing.T) { // P13.2, P13.3
	if p, e := Person("MAILTO:A@B.org"); p != "a@b.org" || e != api.OK {
		t.Errorf("Person: %q %v", p, e)
	}
	c := calendar("DTSTART:19700101T000000Z", "DURATION:PT1M")
	if m, e := Read(c); e != api.OK || m.Start != 0 || m.End != 60 {
		t.Errorf("Read: %v %v", m, e)
	}
}

func TestWriteOrder(t *testing.T) { // P13.1
	for _, c := range []struct {
		m    api.Message
		want []string
	}{
		{bare(), []string{"BEGIN:VCALENDAR", "VERSION:2.0", "PRODID:posthorn", "METHOD:M", "BEGIN:VEVENT", "UID:u", "SEQUENCE:0", "DTSTAMP:19700101T000000Z", "END:VEVENT", "END:VCALENDAR", ""}},
		{full(), []string{"BEGIN:VCALENDAR", "VERSION:2.0", "PRODID:posthorn", "METHOD:REQUEST", "BEGIN:VEVENT", "UID:u-1@x", "SEQUENCE:7", "DTSTAMP:20240229T000000Z", "RECURRENCE-ID:19700101T000100Z",
			"ORGANIZER:mailto:o@x.org", "ATTENDEE;PARTSTAT=ACCEPTED:mailto:a@x", "ATTENDEE;PARTSTAT=NEEDS-ACTION:mailto:b@x", "DTSTART:19700101T000000Z", "DTEND:19700101T010000Z",
			`SUMMARY:a\;b\,c\\d\ne` + "\tf", "COMMENT:é €", "END:VEVENT", "END:VCALENDAR", ""}},
		{with(bare(), func(m *api.Message) { m.Recur, m.Start, m.Comment = 0, last, "\n" }), []string{"BEGIN:VCALENDAR", "VERSION:2.0", "PRODID:posthorn", "METHOD:M", "BEGIN:VEVENT", "UID:u", "SEQUENCE:0", "DTSTAMP:19700101T000000Z",
			"RECURRENCE-ID:19700101T000000Z", "DTSTART:99991231T235959Z", `COMMENT:\n`, "END:VEVENT", "END:VCALENDAR", ""}},
	} {
		comp, e := Write(c.m)
		b, f := tree.Write(comp)
		if want := strings.Join(c.want, "\r\n"); e != api.OK || f != api.OK || string(b) != want {
			t.Errorf("Write(%+v): %q %v %v, not %q", c.m, b, e, f, want)
		}
		checkMessage(t, c.m)
	}
}

func TestRight(t *testing.T) { // P13.1
	var set = func(change func(m *api.Message)) api.Message { return with(full(), change) }
	long := some("a", 64) + "@" + some(some("b", 63)+".", 3) + some("c", 61)
	for at, c := range []struct {
		m    api.Message
		want bool
	}{
		{bare(), true}, {full(), true}, {nothing, false},
		{set(func(m *api.Message) { m.Method = "" }), false}, {set(func(m *api.Message) { m.Method = some("Z", 32) }), true}, {set(func(m *api.Message) { m.Method = some("Z", 33) }), false}, {set(func(m *api.Message) { m.Method = "request" }), false}, {set(func(m *api.Message) { m.Method = "A B" }), false}, {set(func(m *api.Message) { m.Method = "É" }), false},
		{set(func(m *api.Message) { m.UID = "" }), false}, {set(func(m *api.Message) { m.UID = some("~", 200) }), true}, {set(func(m *api.Message) { m.UID = some("!", 201) }), false}, {set(func(m *api.Message) { m.UID = "a b" }), false}, {set(func(m *api.Message) { m.UID = "é" }), false},
		{set(func(m *api.Message) { m.UID = `a\b` }), false}, {set(func(m *api.Message) { m.UID = "a;b" }), false}, {set(func(m *api.Message) { m.UID = "a,b" }), false}, {set(func(m *api.Message) { m.UID = `a:"b"=` }), true},
		{set(func(m *api.Message) { m.Seq = 0 }), true}, {set(func(m *api.Message) { m.Seq = -1 }), false}, {set(func(m *api.Message) { m.Seq = math.MaxInt32 }), true}, {set(func(m *api.Message) { m.Seq = math.MaxInt32 + 1 }), false}, {set(func(m *api.Message) { m.Seq = math.MaxInt }), false}, {set(func(m *api.Message) { m.Seq = math.MinInt }), false}, {set(func(m *api.Message) { m.Seq = 1 << 32 }), false},
		{set(func(m *api.Message) { m.Stamp = 0 }), true}, {set(func(m *api.Message) { m.Stamp = last }), true}, {set(func(m *api.Message) { m.Stamp = -1 }), false}, {set(func(m *api.Message) { m.Stamp = last + 1 }), false}, {set(func(m *api.Message) { m.Stamp = math.MinInt64 }), false}, {set(func(m *api.Message) { m.Stamp = math.MaxInt64 }), false},
		{set(func(m *api.Message) { m.Recur = 0 }), true}, {set(func(m *api.Message) { m.Recur = -1 }), true}, {set(func(m *api.Message) { m.Recur = last }), true}, {set(func(m *api.Message) { m.Recur = last + 1 }), false}, {set(func(m *api.Message) { m.Recur = -2 }), false},
		{set(func(m *api.Message) { m.Organizer = "" }), true}, {set(func(m *api.Message) { m.Organizer = "O@x" }), false}, {set(func(m *api.Message) { m.Organizer = "o@X" }), false}, {set(func(m *api.Message) { m.Organizer = "o" }), false}, {set(func(m *api.Message) { m.Organizer = "o <o@x>" }), false}, {set(func(m *api.Message) { m.Organizer = "mailto:o@x" }), false}, {set(func(m *api.Message) { m.Organizer = " o@x" }), false}, {set(func(m *api.Message) { m.Organizer = "@" }), false}, {set(func(m *api.Message) { m.Organizer = "é@x" }), false},
		{set(func(m *api.Message) { m.Organizer = long }), true}, {set(func(m *api.Message) { m.Organizer = long + "c" }), false}, {set(func(m *api.Message) { m.Organizer = "a" + long }), false},
		{set(func(m *api.Message) { m.Attendees = nil }), true}, {set(func(m *api.Message) { m.Attendees = []api.Attendee{} }), true}, {set(func(m *api.Message) { m.Attendees = people(32) }), true}, {set(func(m *api.Message) { m.Attendees = people(33) }), false},
		{set(func(m *api.Message) { m.Attendees = append(people(31), people(1)...) }), false}, {set(func(m *api.Message) { m.Attendees = append(people(2), people(2)[1]) }), false}, {set(func(m *api.Message) {
			m.Attendees = []api.Attendee{{Addr: "a@x", Part: "ACCEPTED"}, {Addr: "a@x", Part: "DECLINED"}}
		}), false},
		{set(func(m *api.Message) { m.Attendees = []api.Attendee{{Addr: "o@x.org", Part: "TENTATIVE"}} }), true}, {set(func(m *api.Message) { m.Attendees = []api.Attendee{{Addr: long, Part: "DECLINED"}} }), true}, {set(func(m *api.Message) { m.Attendees = []api.Attendee{{Addr: "", Part: "DECLINED"}} }), false}, {set(func(m *api.Message) { m.Attendees = []api.Attendee{{Addr: "A@x", Part: "DECLINED"}} }), false},
		{set(func(m *api.Message) { m.Attendees = []api.Attendee{{Addr: "a@x", Part: ""}} }), false}, {set(func(m *api.Message) { m.Attendees = []api.Attendee{{Addr: "a@x", Part: "accepted"}} }), false}, {set(func(m *api.Message) { m.Attendees = []api.Attendee{{Addr: "a@x", Part: "DELEGATED"}} }), false}, {set(func(m *api.Message) { m.Attendees = []api.Attendee{{Addr: "a@x", Part: "ACCEPTED "}} }), false}, {set(func(m *api.Message) { m.Attendees = append(people(3), api.Attendee{}) }), false},
		{set(func(m *api.Message) { m.Start, m.End = -1, -1 }), true}, {set(func(m *api.Message) { m.Start, m.End = 0, -1 }), true}, {set(func(m *api.Message) { m.Start, m.End = -1, 0 }), false}, {set(func(m *api.Message) { m.Start, m.End = -1, 60 }), false}, {set(func(m *api.Message) { m.Start, m.End = 0, 0 }), false}, {set(func(m *api.Message) { m.Start, m.End = 0, 1 }), true}, {set(func(m *api.Message) { m.Start, m.End = 60, 59 }), false}, {set(func(m *api.Message) { m.Start, m.End = 60, 60 }), false}, {set(func(m *api.Message) { m.Start, m.End = last, -1 }), true}, {set(func(m *api.Message) { m.Start, m.End = last-1, last }), true}, {set(func(m *api.Message) { m.Start, m.End = last, last+1 }), false}, {set(func(m *api.Message) { m.Start, m.End = 0, last+1 }), false}, {set(func(m *api.Message) { m.Start, m.End = last+1, -1 }), false}, {set(func(m *api.Message) { m.Start, m.End = -2, -1 }), false}, {set(func(m *api.Message) { m.Start, m.End = 0, -2 }), false}, {set(func(m *api.Message) { m.Start, m.End = -3, -2 }), false}, {set(func(m *api.Message) { m.Start, m.End = -2, 5 }), false},
		{set(func(m *api.Message) { m.Summary = some("a", 1000) }), true}, {set(func(m *api.Message) { m.Summary = some("a", 1001) }), false}, {set(func(m *api.Message) { m.Summary = some(";", 1000) }), true}, {set(func(m *api.Message) { m.Summary = some("\n", 1000) }), true}, {set(func(m *api.Message) { m.Summary = some("é", 500) }), true}, {set(func(m *api.Message) { m.Summary = some("é", 500) + "a" }), false}, {set(func(m *api.Message) { m.Summary = "\r\n" }), false}, {set(func(m *api.Message) { m.Summary = "\xff" }), false}, {set(func(m *api.Message) { m.Summary = "\xed\xa0\x80" }), false}, {set(func(m *api.Message) { m.Summary = "\u0080" }), true},
		{set(func(m *api.Message) { m.Comment = some("\\", 1000) }), true}, {set(func(m *api.Message) { m.Comment = some("a", 1001) }), false}, {set(func(m *api.Message) { m.Comment = "\x7f" }), false}, {set(func(m *api.Message) { m.Comment = "\xc3" }), false}, {set(func(m *api.Message) { m.Comment = "" }), true}, {set(func(m *api.Message) { m.Comment = "\U0010ffff\t" }), true},
	} {
		if Right(c.m) != c.want {
			t.Errorf("Right of the message %d, %+v: not %v", at, c.m, c.want)
		}
		checkMessage(t, c.m)
	}
}

func TestEveryByte(t *testing.T) { // P13.1, P13.3, P13.4
	for c := range 256 {
		b := string([]byte{byte(c)})
		for _, s := range []string{b, "a" + b, b + "A", "a" + b + "a", b + b} {
			for _, m := range []api.Message{
				with(bare(), func(m *api.Message) { m.Method = s }),
				with(bare(), func(m *api.Message) { m.Method = "A" + b }),
				with(bare(), func(m *api.Message) { m.UID = s }),
				with(bare(), func(m *api.Message) { m.Organizer = s + "@x" }),
				with(bare(), func(m *api.Message) { m.Organizer = "x@" + s }),
				with(bare(), func(m *api.Message) { m.Attendees = []api.Attendee{{Addr: s + "@x", Part: "ACCEPTED"}} }),
				with(bare(), func(m *api.Message) { m.Attendees = []api.Attendee{{Addr: "a@x", Part: "ACCEPTED" + b}} }),
				with(bare(), func(m *api.Message) { m.Summary = s }),
				with(bare(), func(m *api.Message) { m.Comment = s }),
			} {
				checkMessage(t, m)
			}
			for _, name := range []string{"UID", "SEQUENCE", "DTSTAMP", "RECURRENCE-ID", "ORGANIZER", "ATTENDEE", "DTSTART", "DTEND", "DURATION", "SUMMARY", "COMMENT", "X"} {
				checkComp(t, replaced(name, s))
			}
			checkComp(t, replaced("SEQUENCE", "1"+b))
			checkComp(t, replaced("DTSTAMP", "19700101T00000"+b+"Z"))
			checkComp(t, replaced("ORGANIZER", "mailto"+b+"a@x"))
			checkComp(t, replaced("ORGANIZER", b+"ailto:a@x"))
			checkComp(t, replaced("ATTENDEE", "mailto:"+s+"@x"))
			checkComp(t, replaced("SUMMARY", `\`+b))
			checkComp(t, replaced("COMMENT", `a\\`+b+`\,`))
			checkComp(t, headed("VERSION:2.0", "METHOD:"+s))
			checkComp(t, headed("VERSION:2"+b+"0", "METHOD:A"))
			checkComp(t, changed(calendar(), func(c *api.Comp) { c.Name = "VCALENDA" + b }))
			checkComp(t, changed(calendar(), func(c *api.Comp) { c.Comps[0].Name = "VEVEN" + b }))
			checkComp(t, changed(calendar(), func(c *api.Comp) {
				c.Comps[0].Lines = append(c.Comps[0].Lines, line("ATTENDEE", "mailto:a@x", "PARTSTAT", "ACCEPTE"+b))
			}))
			checkComp(t, changed(calendar(), func(c *api.Comp) {
				c.Comps[0].Lines = append(c.Comps[0].Lines, line("ATTENDEE", "mailto:a@x", "PARTSTA"+b, "ACCEPTED"))
			}))
		}
	}
}

// texts is lines of which each one is a Name, a colon and a Value.
func texts(l ...string) []api.Line {
	var out []api.Line
	for _, s := range l {
		name, value, _ := strings.Cut(s, ":")
		out = append(out, line(name, value))
	}
	return out
}

// calendar is one that can be read, with more lines in its VEVENT.
func calendar(l ...string) api.Comp {
	inner := append(texts("UID:u", "DTSTAMP:19700101T000000Z"), texts(l...)...)
	return api.Comp{Name: "VCALENDAR", Lines: texts("VERSION:2.0", "METHOD:M"), Comps: []api.Comp{{Name: "VEVENT", Lines: inner}}}
}

// headed is one with other lines ahead of its VEVENT.
func headed(l ...string) api.Comp {
	c := calendar()
	c.Lines = texts(l...)
	return c
}

// changed is a component that is changed.
func changed(c api.Comp, change func(c *api.Comp)) api.Comp {
	change(&c)
	return c
}

// replaced is a calendar with a DTSTART and the line that is named, with a Value, and with no other one of that Name.
func replaced(name, value string) api.Comp {
	c := calendar("DTSTART:19700101T000000Z")
	inner := &c.Comps[0]
	inner.Lines = slices.DeleteFunc(inner.Lines, func(l api.Line) bool { return l.Name == name })
	inner.Lines = append(inner.Lines, line(name, value))
	return c
}

func TestPerson(t *testing.T) { // P13.2
	long := some("A", 64) + "@" + some(some("B", 63)+".", 3) + some("C", 61)
	for value, want := range map[string]string{
		"mailto:a@x": "a@x", "MAILTO:A@X": "a@x", "mAiLtO:a.B@c.D": "a.b@c.d", "mailto:" + long: strings.ToLower(long), "mailto:A!#$%&'*+-/=?^_{|}`@x": "a!#$%&'*+-/=?^_{|}`@x",
		"": "", "mailto": "", "mailto:": "", "a@x": "", ":a@x": "", "mailto:@": "", "mailto:a": "", "mailto:a@": "", "mailto:@x": "", "mailto: a@x": "", " mailto:a@x": "", "mailto:a@x ": "", "mailto :a@x": "", "mailto:<a@x>": "", "mailto:A <a@x>": "",
		"mailto:mailto:a@x": "", "mailt:a@x": "", "http:a@x": "", "mailtoo:a@x": "", "mailto:a@x?subject=b": "", "mailto:a%40x": "", "mailto:é@x": "", "mailto:a@é": "", "mailto:a@x,b@x": "", "mailto:a@x\r\n": "", "mailto:a\x00@x": "", "maılto:a@x": "", "MAİLTO:a@x": "", "maｉlto:a@x": "",
		"mailto:A" + long: "", "mailto:" + long + "C": "", "mailto:a@\u212a": "", "mailto:a..b@x": "", "mailto:.a@x": "", "mailto:a@x.": "", "mailto:a@-x": "", "mailto:a@x_y": "", "mailto:a@b@c": "", "mailto:~@x": "",
		"mailto/a@x": "", "mailto;a@x": "", "M\x01ILTO:a@x": "", "mailto\x1aa@x": "", "mailtoza@x": "", "-ailto:a@x": "",
	} {
		code := api.OK
		if want == "" {
			code = api.ErrEvent
		}
		if p, e := Person(value); p != want || e != code {
			t.Errorf("Person(%q): %q %v", value, p, e)
		}
	}
	r := rand.New(rand.NewSource(1))
	pieces := []string{"mailto:", "MailTo:", "a", "B", "@", "@x", ".", "-", "é", " ", "<", ">", ":", "Q@Z.org"}
	found := 0
	for range 100000 {
		value := pieces[r.Intn(2)]
		for range r.Intn(6) {
			value += pieces[r.Intn(len(pieces))]
		}
		value = value[r.Intn(20)/19:]
		want, right := slowAddress(value)
		p, e := Person(value)
		if right && (p != want || e != api.OK) || !right && (p != "" || e != api.ErrEvent) {
			t.Fatalf("Person(%q): %q %v, not %q %v", value, p, e, want, right)
		}
		if right {
			found++
			if again, e := Person("mailto:" + p); again != p || e != api.OK {
				t.Fatalf("Person of the person %q: %q %v", p, again, e)
			}
		}
	}
	if found < 1000 {
		t.Errorf("%d persons", found)
	}
}

func TestReadCounts(t *testing.T) { // P13.3
	once := map[string]string{"UID": "v", "DTSTAMP": "20000101T000000Z", "SEQUENCE": "1", "RECURRENCE-ID": "20000102T000000Z", "ORGANIZER": "mailto:o@x", "DTSTART": "20000103T000000Z", "DTEND": "20000104T000000Z", "DURATION": "P1D", "SUMMARY": "s", "COMMENT": "c"}
	for name, value := range once {
		for n := range 4 {
			c := calendar("DTSTART:19990101T000000Z")
			inner := &c.Comps[0]
			inner.Lines = slices.DeleteFunc(inner.Lines, func(l api.Line) bool { return l.Name == name })
			for range n {
				inner.Lines = append(inner.Lines, line(name, value))
			}
			want := n == 1 || n == 0 && name != "UID" && name != "DTSTAMP"
			if got := checkComp(t, c); got != want {
				t.Errorf("Read with %d of %s: %v", n, name, got)
			}
			// A line that stands elsewhere says nothing.
			c = calendar()
			c.Lines = append(c.Lines, slices.Repeat([]api.Line{line(name, "?")}, n)...)
			c.Comps = append(c.Comps, api.Comp{Name: "VTODO", Lines: c.Lines})
			c.Comps[0].Comps = append(c.Comps[0].Comps, api.Comp{Name: "VALARM", Lines: c.Lines})
			if !checkComp(t, c) {
				t.Errorf("Read with %d of %s elsewhere: false", n, name)
			}
		}
	}
	for n := range 4 {
		one := n == 1
		got := checkComp(t, headed(append(slices.Repeat([]string{"VERSION:2.0"}, n), "METHOD:M")...))
		if got != one {
			t.Errorf("Read with %d of VERSION: %v", n, got)
		}
		if got := checkComp(t, headed(append(slices.Repeat([]string{"METHOD:M"}, n), "VERSION:2.0")...)); got != one {
			t.Errorf("Read with %d of METHOD: %v", n, got)
		}
		c := calendar()
		c.Comps = append(slices.Repeat(c.Comps, n), api.Comp{Name: "VTIMEZONE"}, api.Comp{Name: "vevent"}, api.Comp{Name: "X", Comps: c.Comps})
		if got := checkComp(t, c); got != one {
			t.Errorf("Read with %d of VEVENT: %v", n, got)
		}
	}
	// Of two lines that are unlike, none counts; two VEVENTs, one of which has nothing, are two.
	for _, c := range []api.Comp{headed("VERSION:2.0", "VERSION:1.0", "METHOD:M"), headed("VERSION:1.0", "VERSION:2.0", "METHOD:M"), headed("VERSION:2.0", "METHOD:M", "METHOD:N"), calendar("UID:u"), calendar("SUMMARY:", "SUMMARY:"), calendar("SEQUENCE:0", "SEQUENCE:0"),
		changed(calendar(), func(c *api.Comp) { c.Comps = append(c.Comps, api.Comp{Name: "VEVENT"}) }), blank, {Name: "VCALENDAR"}, {Name: "VEVENT", Lines: calendar().Lines, Comps: calendar().Comps}, calendar().Comps[0], {Name: "VCALENDAR", Comps: []api.Comp{calendar()}}} {
		if checkComp(t, c) {
			t.Errorf("Read(%q): it is read", c)
		}
	}
}

// TestReadPairs goes through all sets of the lines that there may be one of.
func TestReadPairs(t *testing.T) { // P13.3
	all := []string{"SEQUENCE:1", "RECURRENCE-ID:20000102T000000Z", "ORGANIZER:mailto:o@x", "DTSTART:20000103T000000Z", "DTEND:20000104T000000Z", "DURATION:P1D", "SUMMARY:s", "COMMENT:c", "ATTENDEE:mailto:a@x"}
	r := rand.New(rand.NewSource(1))
	for set := range 1 << len(all) {
		var l []string
		for i, s := range all {
			if set>>i&1 == 1 {
				l = append(l, s)
			}
		}
		start, end, length := set>>3&1 == 1, set>>4&1 == 1, set>>5&1 == 1
		want := !(end && length) && (start || !end && !length)
		for range 3 {
			if got := checkComp(t, calendar(l...)); got != want {
				t.Errorf("Read with %q: %v", l, got)
			}
			// The order of lines counts for nothing.
			r.Shuffle(len(l), func(i, j int) { l[i], l[j] = l[j], l[i] })
		}
	}
}

func TestReadValues(t *testing.T) { // P13.3
	long := some("a", 64) + "@" + some(some("b", 63)+".", 3) + some("c", 61)
	for name, cases := range map[string]struct{ right, wrong []string }{
		"UID":           {[]string{"a", "!", "~", some("a", 200), `":"`}, []string{"", " ", some("a", 201), "a b", "a;b", "a,b", `a\b`, `a\;b`, `a\\b`, `a\nb`, "é", "\x7f"}},
		"SEQUENCE":      {[]string{"0", "1", "10", "2147483647"}, []string{"", "00", "01", "000", "+1", "-0", "-1", " 1", "1 ", "1.0", "1_0", "0x1", "2147483648", "4294967296", "4294967297", "9223372036854775808", "18446744073709551616", some("9", 1000), "0" + some("1", 5), "١", "a"}},
		"DTSTAMP":       {[]string{"19700101T000000Z", "99991231T235959Z", "20240229T120000Z"}, []string{"", "-1", "0", "19700101", "19700101T000000", "19700101T000000z", "19691231T235959Z", "20230229T000000Z", "19700101T240000Z", "19700101T000060Z", " 19700101T000000Z", "100000101T000000Z", "1970-01-01T00:00:00Z"}},
		"RECURRENCE-ID": {[]string{"19700101T000000Z", "99991231T235959Z"}, []string{"", "-1", "19700101", "19700101T000000", "20230229T000000Z"}},
		"DTSTART":       {[]string{"19700101T000000Z", "99991231T235959Z"}, []string{"", "-1", "19700101", "19700101T000000", "20230229T000000Z"}},
		"DTEND":         {[]string{"19700101T000001Z", "99991231T235959Z"}, []string{"", "-1", "19700101T000000Z", "19700102", "19700102T000000", "20230229T000000Z", "P1D"}},
		"DURATION":      {[]string{"PT1S", "+PT1S", "P1W", "P1DT1H", "P2932896D", "P2932896DT23H59M59S", "PT1M0S", "P0DT1S", "PT0H1M", "P0000000001D"}, []string{"", "P", "PT", "PT0S", "P0D", "P0W", "-PT2S", "-P1D", "P2932897D", "P2932896DT24H", "P10000000000D", "PT1H1S", "P1Y", "P1", "1D", "p1d", "P1WT1S", "P1W1D", "PT1M1H", "99991231T235959Z", " P1D", "P00000000001D"}},
		"ORGANIZER":     {[]string{"mailto:a@x", "MAILTO:A@X", "mailto:" + long, "mailto:O@x"}, []string{"", "a@x", "mailto:", "mailto:a", "http:a@x", "mailto:A <a@x>", "mailto:" + long + "c", "mailto:é@x", "invalid:nomail"}},
		"ATTENDEE":      {[]string{"mailto:a@x", "MAILTO:A@X", "mailto:" + long}, []string{"", "a@x", "mailto:", "mailto:a", "http:a@x", "mailto:A <a@x>", "mailto:" + long + "c", "mailto:é@x", "invalid:nomail"}},
		"SUMMARY":       {[]string{"", "a", `\n`, `\N`, `\\`, `\;`, `\,`, "é", "\t", ":", `"`, some("a", 1000), some(`\n`, 1000), some("é", 500)}, []string{";", ",", `\`, `a\`, `\a`, `\"`, `\\\`, "a\nb", "\r", "\x00", "\x7f", "\xff", some("a", 1001), some(`\n`, 1001), some("é", 500) + "a"}},
		"COMMENT":       {[]string{"", "a", `\n`, `\N`, `\\`, `\;`, `\,`, "é", "\t", ":", `"`, some("a", 1000), some(`\n`, 1000), some("é", 500)}, []string{";", ",", `\`, `a\`, `\a`, `\"`, `\\\`, "a\nb", "\r", "\x00", "\x7f", "\xff", some("a", 1001), some(`\n`, 1001), some("é", 500) + "a"}},
		"X":             {[]string{"", "\xff", "\x00", some("a", 10000), ";", `\`}, nil},
		"PRIORITY":      {[]string{"", "a"}, nil},
		"dtend":         {[]string{"", "P1D", "?"}, nil},
	} {
		for _, value := range cases.right {
			if !checkComp(t, replaced(name, value)) {
				t.Errorf("Read with %s %.100q: ErrEvent", name, value)
			}
		}
		for _, value := range cases.wrong {
			if checkComp(t, replaced(name, value)) {
				t.Errorf("Read with %s %.100q: it is read", name, value)
			}
		}
	}
	for value, want := range map[string]bool{"2.0": true, "1.0": false, "2": false, "": false, "2.00": false, " 2.0": false, "2.0;2.0": false, "02.0": false} {
		if checkComp(t, headed("VERSION:"+value, "METHOD:M")) != want {
			t.Errorf("Read with VERSION %q: not %v", value, want)
		}
	}
	for value, want := range map[string]string{"M": "M", "request": "REQUEST", "RePlY": "REPLY", some("z", 32): some("Z", 32), some("z", 33): "", "": "", "A B": "", "A1": "", "A-B": "", "é": "", "ſ": "", "ı": "", " A": "", "[": "", "`": ""} {
		c := headed("VERSION:2.0", "METHOD:"+value)
		if checkComp(t, c) != (want != "") {
			t.Errorf("Read with METHOD %q: not %q", value, want)
		}
		if m, _ := Read(c); m.Method != want {
			t.Errorf("Read with METHOD %q: %q", value, m.Method)
		}
	}
}

func TestReadSays(t *testing.T) { // P13.3
	c := calendar("SEQUENCE:12", "RECURRENCE-ID:19700101T000001Z", "ORGANIZER:MAILTO:O@X", "ATTENDEE:mailto:A@x", "DTSTART:19700101T000002Z", "DTEND:19700101T000003Z", `SUMMARY:a\;\,\\\n\N`, "COMMENT:c", "CLASS:PUBLIC", "X-A:b", "CREATED:?")
	inner := &c.Comps[0]
	inner.Lines = append(inner.Lines, line("ATTENDEE", "mailto:b@x", "PARTSTAT", "accepted"), line("ATTENDEE", "mailto:c@x", "ROLE", "CHAIR", "PARTSTAT", "Declined", "RSVP", "TRUE"), line("ATTENDEE", "mailto:d@x", "CN", "TENTATIVE"), line("ATTENDEE", "mailto:e@x", "PARTSTAT", "NEEDS-action"), line("ATTENDEE", "mailto:f@x", "partstat", "TENTATIVE"))
	for i := range inner.Lines {
		if inner.Lines[i].Name != "ATTENDEE" {
			inner.Lines[i].Params = []api.Param{{Name: "X-P", Value: "q"}, {Name: "VALUE", Value: "DATE"}, {Name: "PARTSTAT", Value: "?"}}
		}
	}
	inner.Comps = []api.Comp{{Name: "VALARM", Lines: texts("DURATION:?", "SUMMARY:;")}, {Name: "VEVENT"}}
	c.Comps = append([]api.Comp{{Name: "VTIMEZONE", Lines: texts("DTSTART:?"), Comps: []api.Comp{{Name: "VEVENT"}}}}, c.Comps...)
	c.Lines = append(c.Lines, texts("CALSCALE:GREGORIAN", "UID:?", "DTSTAMP:?", "ATTENDEE:?")...)
	want := api.Message{Method: "M", UID: "u", Seq: 12, Recur: 1, Organizer: "o@x", Start: 2, End: 3, Summary: "a;,\\\n\n", Comment: "c",
		Attendees: []api.Attendee{{Addr: "a@x", Part: "NEEDS-ACTION"}, {Addr: "b@x", Part: "ACCEPTED"}, {Addr: "c@x", Part: "DECLINED"}, {Addr: "d@x", Part: "NEEDS-ACTION"}, {Addr: "e@x", Part: "NEEDS-ACTION"}, {Addr: "f@x", Part: "NEEDS-ACTION"}}}
	if m, e := Read(c); e != api.OK || !same(m, want) {
		t.Errorf("Read: %+v %v", m, e)
	}
	checkComp(t, c)
	if m, e := Read(calendar()); e != api.OK || !same(m, bare()) {
		t.Errorf("Read of no more than must be: %+v %v", m, e)
	}
	if m, e := Read(calendar("SUMMARY:", "COMMENT:")); e != api.OK || !same(m, bare()) {
		t.Errorf("Read of empty texts: %+v %v", m, e)
	}
}

func TestReadAttendees(t *testing.T) { // P13.3
	with := func(l ...api.Line) api.Comp {
		return changed(calendar(), func(c *api.Comp) { c.Comps[0].Lines = append(c.Comps[0].Lines, l...) })
	}
	var many []api.Line
	for _, a := range people(33) {
		many = append(many, line("ATTENDEE", "mailto:"+a.Addr))
	}
	for at, c := range []struct {
		c    api.Comp
		want bool
	}{
		{with(many[:32]...), true}, {with(many...), false}, {with(many[0], many[1], many[0]), false}, {with(line("ATTENDEE", "mailto:a@x"), line("ATTENDEE", "MAILTO:A@X", "PARTSTAT", "DECLINED")), false},
		{with(line("ATTENDEE", "mailto:a@x", "PARTSTAT", "")), false}, {with(line("ATTENDEE", "mailto:a@x", "PARTSTAT", "DELEGATED")), false}, {with(line("ATTENDEE", "mailto:a@x", "PARTSTAT", "ACCEPTED ")), false}, {with(line("ATTENDEE", "mailto:a@x", "PARTSTAT", "DECLıNED")), false}, {with(line("ATTENDEE", "mailto:a@x", "PARTSTAT", "NEEDſ-ACTION")), false},
		{with(line("ATTENDEE", "mailto:a@x", "PARTSTAT", "tentative")), true}, {with(line("ATTENDEE", "mailto:a@x"), line("ATTENDEE", "?")), false}, {with(line("ATTENDEE", "?"), line("ATTENDEE", "mailto:a@x")), false}, {with(line("ATTENDEE", "mailto:a@x"), line("attendee", "?"), line("ATTENDEES", "?")), true},
		{with(line("ORGANIZER", "mailto:a@x"), line("ATTENDEE", "mailto:a@x")), true},
	} {
		if checkComp(t, c.c) != c.want {
			t.Errorf("Read of the calendar %d, %.200q: not %v", at, c.c, c.want)
		}
	}
}

func TestLength(t *testing.T) { // P13.3
	for _, c := range []struct {
		start, length string
		end           int64
		want          api.Errno
	}{
		{"19700101T000000Z", "PT1M", 60, api.OK}, {"19700101T000000Z", "PT1S", 1, api.OK}, {"19700101T000000Z", "+P1W", 604800, api.OK}, {"19700101T000010Z", "P1DT2H3M4S", 93794, api.OK},
		{"99991231T235958Z", "PT1S", last, api.OK}, {"99991231T235958Z", "PT2S", 0, api.ErrEvent}, {"19700101T000000Z", "P2932896DT23H59M59S", last, api.OK}, {"19700101T000000Z", "P2932897D", 0, api.ErrEvent},
		{"19700101T000000Z", "PT0S", 0, api.ErrEvent}, {"20000101T000000Z", "-PT1S", 0, api.ErrEvent}, {"20000101T000000Z", "-P1D", 0, api.ErrEvent}, {"19700101T000000Z", "-PT2S", 0, api.ErrEvent}, {"19700101T000000Z", "P1099511627776D", 0, api.ErrEvent}, {"99991231T235959Z", "PT9999999999S", 0, api.ErrEvent},
		// A start and a length that come to -1 say that there is no end.
		{"19700101T000000Z", "-PT1S", -1, api.OK}, {"19700101T000059Z", "-PT1M", -1, api.OK},
	} {
		comp := calendar("DTSTART:"+c.start, "DURATION:"+c.length)
		m, e := Read(comp)
		if e != c.want || m.End != c.end {
			t.Errorf("Read of %s and %s: %d %v", c.start, c.length, m.End, e)
		}
		checkComp(t, comp)
	}
	r := rand.New(rand.NewSource(1))
	for range 20000 {
		start := r.Int63n(last + 1)
		n := 1 + r.Int63n(9999999999)
		comp := calendar("DTSTART:"+slowPrint(start), "DURATION:PT"+strconv.FormatInt(n, 10)+"S")
		m, e := Read(comp)
		if start+n <= last && (e != api.OK || m.End != start+n) || start+n > last && e != api.ErrEvent {
			t.Fatalf("Read of %d and %d: %d %v", start, n, m.End, e)
		}
		comp = calendar("DTSTART:"+slowPrint(start), "DTEND:"+slowPrint(min(start+n, last)))
		if m, e := Read(comp); start != last && (e != api.OK || m.End != min(start+n, last)) {
			t.Fatalf("Read of %d till %d: %d %v", start, start+n, m.End, e)
		}
	}
}

func TestFolded(t *testing.T) { // P13.3, P3
	want := with(full(), func(m *api.Message) { m.Summary, m.Comment = some("é;", 300), some("a\n", 500) })
	c, _ := Write(want)
	b, e := tree.Write(c)
	if e != api.OK || !strings.Contains(string(b), "\r\n ") {
		t.Fatalf("the calendar is not folded: %v", e)
	}
	for _, s := range []string{string(b), strings.ReplaceAll(string(b), "\r\n ", ""), strings.ReplaceAll(string(b), "\r\n ", "\r\n\t"), strings.ReplaceAll(string(b), ":", "\r\n :"), strings.ReplaceAll(string(b), "E", "e\r\n "), strings.ReplaceAll(string(b), "mailto", "MailTo")} {
		c, e := tree.Read([]byte(s))
		if m, f := Read(c); e != api.OK || f != api.OK || !same(m, want) {
			t.Errorf("Read of %q: %+v %v %v", s[:100], m, e, f)
		}
	}
}

// someMessage is a message that may be.
func someMessage(r *rand.Rand) api.Message {
	pick := func(l ...string) string { return l[r.Intn(len(l))] }
	when := func() int64 {
		return []int64{0, 1, last, last - 1, r.Int63n(last + 1), r.Int63n(1 << 32)}[r.Intn(6)]
	}
	words := func() string {
		s := ""
		for range r.Intn(30) {
			s += pick("a", ";", ",", "\\", "\n", "\t", " ", "é", "€", "\U0001f600", `\n`, `\;`, ":", `"`, "mailto:", "BEGIN:VEVENT", "\u0085", "\u2028")
		}
		return s
	}
	m := api.Message{Method: pick("REQUEST", "REPLY", "A", some("Q", 32)), UID: pick("u", some("x", 200), "a:b", `"q"`, "~", "1@x"), Seq: []int{0, 1, 10, math.MaxInt32, r.Intn(1 << 31)}[r.Intn(5)],
		Stamp: when(), Recur: -1, Start: -1, End: -1, Organizer: pick("", "o@x", "a.b@c.d", "p1@x"), Summary: words(), Comment: words()}
	if r.Intn(2) == 0 {
		m.Recur = when()
	}
	if r.Intn(3) > 0 {
		m.Start = when()
		if m.Start < last && r.Intn(2) == 0 {
			m.End = m.Start + 1 + r.Int63n(last-m.Start)
		}
	}
	m.Attendees = people(r.Intn(4))
	if r.Intn(10) == 0 {
		m.Attendees = people(32)
	}
	for i := range m.Attendees {
		m.Attendees[i].Part = pick("NEEDS-ACTION", "ACCEPTED", "DECLINED", "TENTATIVE")
	}
	return m
}

func TestThereAndBack(t *testing.T) { // P13.4
	r := rand.New(rand.NewSource(1))
	for range 5000 {
		if m := someMessage(r); !checkMessage(t, m) {
			t.Fatalf("%+v may not be", m)
		}
	}
}

func TestReadAndWritten(t *testing.T) { // P13.3, P13.5
	r := rand.New(rand.NewSource(2))
	values := []string{"", "0", "1", "2.0", "M", "reply", "u", "mailto:z@x", "MAILTO:P1@X", "?", "19700101T000000Z", "20240229T000000Z", "99991231T235959Z", "PT1H", "-PT1H", "P1D", `a\n`, "a;b", "é", "\xff"}
	names := []string{"VERSION", "METHOD", "UID", "SEQUENCE", "DTSTAMP", "RECURRENCE-ID", "ORGANIZER", "ATTENDEE", "DTSTART", "DTEND", "DURATION", "SUMMARY", "COMMENT", "X"}
	read := 0
	for range 30000 {
		c, _ := Write(someMessage(r))
		inner := &c.Comps[0]
		for range r.Intn(3) {
			lines := &inner.Lines
			if r.Intn(5) == 0 {
				lines = &c.Lines
			}
			if len(*lines) == 0 {
				continue
			}
			at := r.Intn(len(*lines))
			switch r.Intn(6) {
			case 0:
				*lines = slices.Delete(*lines, at, at+1)
			case 1:
				*lines = slices.Insert(*lines, at, (*lines)[r.Intn(len(*lines))])
			case 2:
				(*lines)[at].Value = values[r.Intn(len(values))]
			case 3:
				*lines = slices.Insert(*lines, at, line(names[r.Intn(len(names))], values[r.Intn(len(values))], "PARTSTAT", []string{"accepted", "?"}[r.Intn(2)]))
			case 4:
				(*lines)[at].Params = nil
			case 5:
				(*lines)[at].Name = names[r.Intn(len(names))]
			}
		}
		if checkComp(t, c) {
			read++
		}
	}
	if read < 3000 || read > 27000 {
		t.Errorf("%d calendars were read", read)
	}
}

func TestNothingIsChangedOrKept(t *testing.T) { // Rules 4 and 5
	all := append(people(2), api.Attendee{Addr: "!", Part: "!"})
	m := with(full(), func(m *api.Message) { m.Attendees = all[:2] })
	was := with(full(), func(m *api.Message) { m.Attendees = people(2) })
	first, e := Write(m)
	if e != api.OK || !Right(m) || !same(m, was) || all[2].Addr != "!" {
		t.Fatalf("Write: %v, changed to %q", e, all)
	}
	second, _ := Write(m)
	third, _ := Write(m)
	lines := first.Comps[0].Lines
	for i := range lines {
		for j := range lines[i].Params {
			lines[i].Params[j].Value = "!"
			_ = append(lines[i].Params, api.Param{Name: "!"})
		}
		lines[i].Value = "!"
	}
	_ = append(first.Lines, line("!", ""))
	_ = append(first.Comps, api.Comp{Name: "!"})
	first.Lines[0].Value, first.Comps[0].Name = "!", "!"
	if again, _ := Write(m); !sameComp(again, second) || !sameComp(second, third) || !same(m, was) {
		t.Errorf("what is written shares memory: %q", again)
	}
	// What lies behind the lists' lengths is not read.
	c := second
	c.Lines = append(slices.Clone(c.Lines), line("METHOD", "!"))[:len(c.Lines)]
	c.Comps = append(slices.Clone(c.Comps), api.Comp{Name: "VEVENT"})[:1]
	inner := &c.Comps[0]
	inner.Lines = append(slices.Clone(inner.Lines), line("ATTENDEE", "!"))[:len(inner.Lines)]
	for i, l := range inner.Lines {
		inner.Lines[i].Params = append(slices.Clone(l.Params), api.Param{Name: "PARTSTAT", Value: "!"})[:len(l.Params)]
	}
	got, e := Read(c)
	if e != api.OK || !same(got, was) || !sameComp(c, third) {
		t.Fatalf("Read: %+v %v, changed to %q", got, e, c)
	}
	got.Attendees[0].Addr = "!"
	_ = append(got.Attendees, api.Attendee{})
	if again, e := Read(c); e != api.OK || !same(again, was) || !sameComp(c, third) {
		t.Errorf("what was read shares memory: %+v %v", again, e)
	}
}

func TestAllEnds(t *testing.T) { // P1
	// A VEVENT that stands in itself, and one that is nested as deep as may be handed in.
	loop := make([]api.Comp, 2)
	loop[0] = api.Comp{Name: "VEVENT", Lines: calendar().Comps[0].Lines, Comps: loop}
	loop[1] = api.Comp{Name: "VCALENDAR", Lines: calendar().Lines, Comps: loop}
	if m, e := Read(loop[1]); e != api.OK || !same(m, bare()) {
		t.Errorf("Read of a VEVENT that stands in itself: %+v %v", m, e)
	}
	deep := calendar()
	for range 1 << 16 {
		inner := calendar().Comps[0]
		inner.Comps = deep.Comps
		deep.Comps = []api.Comp{inner}
	}
	if m, e := Read(deep); e != api.OK || !same(m, bare()) {
		t.Errorf("Read of a deep one: %+v %v", m, e)
	}
	huge := some("9", 1<<20)
	for _, name := range []string{"UID", "SEQUENCE", "DTSTAMP", "RECURRENCE-ID", "ORGANIZER", "ATTENDEE", "DTSTART", "DTEND", "DURATION", "SUMMARY", "COMMENT"} {
		for _, value := range []string{huge, "mailto:" + huge, "mailto:" + huge + "@x", some(`\n`, 1<<20), some("é", 1<<19)} {
			if m, e := Read(replaced(name, value)); e != api.ErrEvent || !reflect.DeepEqual(m, nothing) {
				t.Errorf("Read of a long %s: %v", name, e)
			}
		}
		many := calendar()
		many.Comps[0].Lines = append(many.Comps[0].Lines, slices.Repeat([]api.Line{line(name, "mailto:a@x")}, 1<<18)...)
		if m, e := Read(many); e != api.ErrEvent || !reflect.DeepEqual(m, nothing) {
			t.Errorf("Read of many of %s: %v", name, e)
		}
	}
	for _, m := range []api.Message{
		with(full(), func(m *api.Message) { m.Attendees = make([]api.Attendee, 1<<20) }), with(full(), func(m *api.Message) { m.Attendees = people(1 << 16) }), with(full(), func(m *api.Message) { m.UID = huge }), with(full(), func(m *api.Message) { m.Method = some("A", 1<<20) }),
		with(full(), func(m *api.Message) { m.Summary = huge }), with(full(), func(m *api.Message) { m.Organizer = huge + "@x" }), with(full(), func(m *api.Message) { m.Attendees[0] = api.Attendee{Addr: huge, Part: huge} }),
	} {
		if c, e := Write(m); Right(m) || e != api.ErrEvent || !reflect.DeepEqual(c, blank) {
			t.Errorf("Write of what may not be: %v", e)
		}
	}
}
