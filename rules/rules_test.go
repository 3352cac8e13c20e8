package rules

import (
	"math"
	"math/rand"
	"slices"
	"strconv"
	"strings"
	"testing"

	"posthorn/api"
	"posthorn/event"
)

const last = 253402300799

var (
	eight  = []string{"ADD", "CANCEL", "COUNTER", "DECLINECOUNTER", "PUBLISH", "REFRESH", "REPLY", "REQUEST"}
	others = []string{"", "X", "add", "Reply", "REQUESTS", "REQUES", " REPLY", "REPLY ", "DECLINE", "COUNTERDECLINE", "DECLINECOUNTERS", "ADDCANCEL", "NEEDSACTION", "ORGANIZER", "ATTENDEE", "REPLY\x00", "ÀDD", "PUBLıSH"}
)

// people is so many attendees with a Part.
func people(n int, part string) []api.Attendee {
	var out []api.Attendee
	for i := range n {
		out = append(out, api.Attendee{Addr: "p" + strconv.Itoa(i) + "@x", Part: part})
	}
	return out
}

// message is one that may be (13), of a method, with so many attendees, and with both times.
func message(method string, attendees int) api.Message {
	return api.Message{Method: method, UID: "u", Seq: 1, Stamp: 2, Recur: 3, Organizer: "o@x", Attendees: people(attendees, "ACCEPTED"), Start: 4, End: 5}
}

// with is a message that is changed.
func with(m api.Message, change func(m *api.Message)) api.Message {
	change(&m)
	return m
}

// as is a message with another method.
func as(m api.Message, method string) api.Message {
	m.Method = method
	return m
}

// asks is a row of the document's list: whose it is, how many Attendees, which times (+: there, -: not there).
type asks struct {
	role        int
	least, most int
	times       string
}

// slowAsks is what the document says that each method asks.
func slowAsks() map[string]asks {
	return map[string]asks{
		"PUBLISH":        {Organizer, 0, 0, "+start"},
		"REQUEST":        {Organizer, 1, 32, "+start"},
		"ADD":            {Organizer, 1, 32, "+recur +start"},
		"CANCEL":         {Organizer, 0, 32, ""},
		"DECLINECOUNTER": {Organizer, 1, 1, ""},
		"REPLY":          {Attendee, 1, 1, ""},
		"REFRESH":        {Attendee, 1, 1, "-start"},
		"COUNTER":        {Attendee, 1, 1, "+start"},
	}
}

// slowCheck is what Check must answer, one word of the promise after the other.
func slowCheck(m api.Message) api.Errno {
	if !event.Right(m) {
		return api.ErrEvent
	}
	a, known := slowAsks()[m.Method]
	if !known {
		return api.ErrMethod
	}
	if m.Organizer == "" {
		return api.ErrMiss
	}
	if len(m.Attendees) < a.least {
		return api.ErrMiss
	}
	if len(m.Attendees) > a.most {
		return api.ErrMore
	}
	if m.Method == "REPLY" && m.Attendees[0].Part == "NEEDS-ACTION" {
		return api.ErrForm
	}
	if strings.Contains(a.times, "+recur") && m.Recur == -1 {
		return api.ErrMiss
	}
	if strings.Contains(a.times, "+start") && m.Start == -1 {
		return api.ErrMiss
	}
	if strings.Contains(a.times, "-start") && m.Start != -1 {
		return api.ErrMore
	}
	return api.OK
}

// checkMessage holds Check and Sender of a message against the slow ones.
func checkMessage(t *testing.T, m api.Message) api.Errno {
	t.Helper()
	want := slowCheck(m)
	if e := Check(m); e != want {
		t.Fatalf("Check(%+v): %v, not %v", m, e, want)
	}
	who := ""
	if want == api.OK {
		who = m.Organizer
		if slowAsks()[m.Method].role == Attendee {
			who = m.Attendees[0].Addr
		}
	}
	if s, e := Sender(m); s != who || e != want {
		t.Fatalf("Sender(%+v): %q %v, not %q %v", m, s, e, who, want)
	}
	if mark := Of(m); mark != (Mark{Seq: m.Seq, Stamp: m.Stamp}) {
		t.Fatalf("Of(%+v): %v", m, mark)
	}
	return want
}

// all calls see with a message of each method, number of attendees, answer, organizer and times.
func all(see func(m api.Message)) {
	for _, method := range append(slices.Clone(eight), others...) {
		for _, n := range []int{0, 1, 2, 3, 31, 32, 33} {
			for _, part := range []string{"NEEDS-ACTION", "ACCEPTED", "DECLINED", "TENTATIVE", "DELEGATED", ""} {
				for _, organizer := range []string{"o@x", "", "p0@x", "O@x"} {
					for _, recur := range []int64{-1, 0, 9, -2} {
						for _, ends := range [][2]int64{{-1, -1}, {0, -1}, {0, 1}, {7, 9}, {-1, 5}, {last, -1}} {
							see(api.Message{Method: method, UID: "u", Seq: 1, Stamp: 2, Recur: recur, Organizer: organizer, Attendees: people(n, part), Start: ends[0], End: ends[1]})
						}
					}
				}
			}
		}
	}
}

func TestExamples(t *testing.T) { // P14.1, P14.2
	m := message("REPLY", 0)
	if e := Check(m); e != api.ErrMiss {
		t.Errorf("Check of a REPLY without Attendees: %v", e)
	}
	if !Newer(Mark{1, 0}, Mark{0, 9}) {
		t.Error("Newer({1, 0}, {0, 9}): false")
	}
}

func TestMethods(t *testing.T) { // P14.1
	if got := Methods(); !slices.Equal(got, eight) || !slices.IsSorted(got) {
		t.Errorf("Methods: %q", got)
	}
	clear(Methods())
	_ = append(Methods(), "!")
	if got := Methods(); !slices.Equal(got, eight) {
		t.Errorf("Methods, again: %q", got)
	}
}

func TestRole(t *testing.T) { // P14.1
	if Unknown != 0 || Organizer != 1 || Attendee != 2 {
		t.Errorf("the roles: %d %d %d", Unknown, Organizer, Attendee)
	}
	for method, want := range map[string]int{"PUBLISH": 1, "REQUEST": 1, "ADD": 1, "CANCEL": 1, "DECLINECOUNTER": 1, "REPLY": 2, "REFRESH": 2, "COUNTER": 2} {
		if got := Role(method); got != want {
			t.Errorf("Role(%q): %d", method, got)
		}
	}
	for _, method := range append(slices.Clone(others), strings.Repeat("A", 1<<20)) {
		if got := Role(method); got != Unknown {
			t.Errorf("Role(%.20q): %d", method, got)
		}
	}
	// With a byte less, more or changed it is another one, or none.
	for _, method := range eight {
		for at := range len(method) {
			for c := range 256 {
				for _, s := range []string{method[:at] + method[at+1:], method[:at] + string([]byte{byte(c)}) + method[at:], method[:at] + string([]byte{byte(c)}) + method[at+1:]} {
					if known := slices.Contains(eight, s); (Role(s) != Unknown) != known {
						t.Errorf("Role(%q): %d", s, Role(s))
					}
				}
			}
		}
	}
}

func TestCheck(t *testing.T) { // P14.1
	for _, c := range []struct {
		m    api.Message
		want api.Errno
	}{
		{api.Message{}, api.ErrEvent},
		{message("PUBLISH", 0), api.OK}, {message("PUBLISH", 1), api.ErrMore},
		{with(message("PUBLISH", 0), func(m *api.Message) { m.Start, m.End = -1, -1 }), api.ErrMiss}, {with(message("PUBLISH", 0), func(m *api.Message) { m.Recur = -1 }), api.OK},
		{message("REQUEST", 0), api.ErrMiss}, {message("REQUEST", 1), api.OK}, {message("REQUEST", 32), api.OK}, {message("REQUEST", 33), api.ErrEvent},
		{with(message("REQUEST", 1), func(m *api.Message) { m.Start, m.End = -1, -1 }), api.ErrMiss}, {with(message("REQUEST", 1), func(m *api.Message) { m.Start, m.End, m.Recur = 0, -1, -1 }), api.OK}, {with(message("REQUEST", 1), func(m *api.Message) { m.Attendees[0].Part = "NEEDS-ACTION" }), api.OK},
		{message("ADD", 0), api.ErrMiss}, {message("ADD", 1), api.OK}, {message("ADD", 32), api.OK}, {with(message("ADD", 1), func(m *api.Message) { m.Recur = -1 }), api.ErrMiss}, {with(message("ADD", 1), func(m *api.Message) { m.Recur = 0 }), api.OK}, {with(message("ADD", 1), func(m *api.Message) { m.Start, m.End = -1, -1 }), api.ErrMiss},
		{message("CANCEL", 0), api.OK}, {message("CANCEL", 32), api.OK}, {with(message("CANCEL", 0), func(m *api.Message) { m.Recur, m.Start, m.End = -1, -1, -1 }), api.OK},
		{message("DECLINECOUNTER", 0), api.ErrMiss}, {message("DECLINECOUNTER", 1), api.OK}, {message("DECLINECOUNTER", 2), api.ErrMore}, {with(message("DECLINECOUNTER", 1), func(m *api.Message) { m.Recur, m.Start, m.End = -1, -1, -1 }), api.OK}, {with(message("DECLINECOUNTER", 1), func(m *api.Message) { m.Attendees[0].Part = "NEEDS-ACTION" }), api.OK},
		{message("REPLY", 1), api.OK}, {message("REPLY", 2), api.ErrMore}, {with(message("REPLY", 1), func(m *api.Message) { m.Attendees[0].Part = "NEEDS-ACTION" }), api.ErrForm}, {with(message("REPLY", 1), func(m *api.Message) { m.Recur, m.Start, m.End = -1, -1, -1 }), api.OK}, {with(message("REPLY", 1), func(m *api.Message) { m.Attendees[0].Part = "TENTATIVE" }), api.OK},
		{message("REFRESH", 1), api.ErrMore}, {with(message("REFRESH", 1), func(m *api.Message) { m.Start, m.End = -1, -1 }), api.OK}, {with(message("REFRESH", 1), func(m *api.Message) { m.Start, m.End = 0, -1 }), api.ErrMore}, {with(message("REFRESH", 0), func(m *api.Message) { m.Start, m.End = -1, -1 }), api.ErrMiss}, {with(message("REFRESH", 2), func(m *api.Message) { m.Start, m.End = -1, -1 }), api.ErrMore}, {with(message("REFRESH", 1), func(m *api.Message) { m.Start, m.End = -1, -1; m.Attendees[0].Part = "NEEDS-ACTION" }), api.OK},
		{message("COUNTER", 0), api.ErrMiss}, {message("COUNTER", 1), api.OK}, {message("COUNTER", 2), api.ErrMore}, {with(message("COUNTER", 1), func(m *api.Message) { m.Start, m.End = -1, -1 }), api.ErrMiss}, {with(message("COUNTER", 1), func(m *api.Message) { m.Attendees[0].Part = "NEEDS-ACTION"; m.Recur = -1 }), api.OK},
		{message("OTHER", 1), api.ErrMethod}, {message("request", 1), api.ErrEvent}, {message("", 1), api.ErrEvent},
		// Where several apply, the first one is told.
		{with(message("OTHER", 33), func(m *api.Message) { m.Organizer = "" }), api.ErrEvent}, {with(message("OTHER", 0), func(m *api.Message) { m.Organizer = "" }), api.ErrMethod},
		{with(message("PUBLISH", 2), func(m *api.Message) { m.Organizer = "" }), api.ErrMiss}, {with(message("REPLY", 2), func(m *api.Message) { m.Organizer = "" }), api.ErrMiss}, {with(message("REFRESH", 1), func(m *api.Message) { m.Organizer = "" }), api.ErrMiss},
		{with(message("REPLY", 2), func(m *api.Message) { m.Attendees = people(2, "NEEDS-ACTION") }), api.ErrMore}, {with(message("PUBLISH", 2), func(m *api.Message) { m.Start, m.End = -1, -1 }), api.ErrMore}, {with(message("COUNTER", 2), func(m *api.Message) { m.Start, m.End = -1, -1 }), api.ErrMore}, {message("REFRESH", 0), api.ErrMiss},
	} {
		if e := Check(c.m); e != c.want {
			t.Errorf("Check(%+v): %v, not %v", c.m, e, c.want)
		}
		checkMessage(t, c.m)
	}
	for _, method := range eight {
		for n := range 3 {
			if e := Check(with(message(method, n), func(m *api.Message) { m.Organizer = "" })); e != api.ErrMiss {
				t.Errorf("Check of a %s without an Organizer: %v", method, e)
			}
		}
	}
}

func TestCheckAll(t *testing.T) { // P14.1, P14.2
	counts := map[api.Errno]int{}
	all(func(m api.Message) { counts[checkMessage(t, m)]++ })
	for _, e := range []api.Errno{api.OK, api.ErrEvent, api.ErrMethod, api.ErrMiss, api.ErrMore, api.ErrForm} {
		if counts[e] == 0 {
			t.Errorf("none was %v", e)
		}
	}
	if len(counts) != 6 {
		t.Errorf("what was told: %v", counts)
	}
}

func TestSender(t *testing.T) { // P14.2
	for _, method := range eight {
		m := message(method, 1)
		switch method {
		case "PUBLISH":
			m.Attendees = nil
		case "REFRESH":
			m.Start, m.End = -1, -1
		}
		want := "o@x"
		if Role(method) == Attendee {
			want = "p0@x"
		}
		if s, e := Sender(m); s != want || e != api.OK {
			t.Errorf("Sender of a %s: %q %v", method, s, e)
		}
		m.UID = ""
		if s, e := Sender(m); s != "" || e != api.ErrEvent {
			t.Errorf("Sender of a %s that may not be: %q %v", method, s, e)
		}
	}
	for e, m := range map[api.Errno]api.Message{api.ErrMethod: message("OTHER", 1), api.ErrMiss: message("REPLY", 0), api.ErrMore: message("REPLY", 2), api.ErrForm: with(message("REPLY", 1), func(m *api.Message) { m.Attendees = people(1, "NEEDS-ACTION") }), api.ErrEvent: {}} {
		if s, got := Sender(m); s != "" || got != e {
			t.Errorf("Sender(%+v): %q %v, not %v", m, s, got, e)
		}
	}
}

func TestOf(t *testing.T) { // P14.2
	for _, m := range []api.Message{{}, {Seq: 5, Stamp: 6}, {Seq: -5, Stamp: -6}, {Seq: math.MinInt, Stamp: math.MaxInt64}, {Seq: 5, Stamp: 6, Recur: 7, Start: 8, End: 9}, message("X", 40)} {
		if mark := Of(m); mark.Seq != m.Seq || mark.Stamp != m.Stamp {
			t.Errorf("Of(%+v): %v", m, mark)
		}
	}
}

// marks is some marks, those at the ends of their types among them.
func marks() []Mark {
	var out []Mark
	for _, seq := range []int{math.MinInt, -1, 0, 1, 2, math.MaxInt32, math.MaxInt} {
		for _, stamp := range []int64{math.MinInt64, -1, 0, 1, 9, last, math.MaxInt64} {
			out = append(out, Mark{seq, stamp})
		}
	}
	return out
}

func TestNewer(t *testing.T) { // P14.2
	for _, c := range []struct {
		a, b Mark
		want bool
	}{
		{Mark{}, Mark{}, false}, {Mark{1, 0}, Mark{0, 0}, true}, {Mark{0, 0}, Mark{1, 0}, false}, {Mark{0, 1}, Mark{0, 0}, true}, {Mark{0, 0}, Mark{0, 1}, false}, {Mark{0, 9}, Mark{1, 0}, false}, {Mark{1, 0}, Mark{0, 9}, true}, {Mark{5, 5}, Mark{5, 5}, false}, {Mark{2, 1}, Mark{1, 2}, true},
		{Mark{math.MaxInt, 0}, Mark{math.MinInt, 0}, true}, {Mark{math.MinInt, 0}, Mark{math.MaxInt, 0}, false}, {Mark{0, math.MaxInt64}, Mark{0, math.MinInt64}, true}, {Mark{0, math.MinInt64}, Mark{0, math.MaxInt64}, false}, {Mark{-1, 0}, Mark{0, 0}, false}, {Mark{0, 0}, Mark{-1, last}, true},
	} {
		if Newer(c.a, c.b) != c.want {
			t.Errorf("Newer(%v, %v): not %v", c.a, c.b, c.want)
		}
	}
	for _, a := range marks() {
		for _, b := range marks() {
			want := a.Seq > b.Seq || a.Seq == b.Seq && a.Stamp > b.Stamp
			if Newer(a, b) != want {
				t.Errorf("Newer(%v, %v): not %v", a, b, want)
			}
		}
	}
}

func TestMarksInOrder(t *testing.T) { // P14.3
	all := marks()
	r := rand.New(rand.NewSource(1))
	for range 30 {
		all = append(all, Mark{r.Intn(5), r.Int63n(5)})
	}
	for _, a := range all {
		for _, b := range all {
			if one := Newer(a, b) != Newer(b, a); one != (a != b) {
				t.Errorf("%v and %v: %v %v", a, b, Newer(a, b), Newer(b, a))
			}
			for _, c := range all {
				if Newer(a, b) && Newer(b, c) && !Newer(a, c) {
					t.Errorf("%v is newer than %v, this than %v, and not the first than the last", a, b, c)
				}
			}
		}
	}
}

func TestWhatMayBeAnother(t *testing.T) { // P14.4
	counters, requests, cancels := 0, 0, 0
	all(func(m api.Message) {
		if Check(as(m, "COUNTER")) == api.OK && m.Attendees[0].Part != "NEEDS-ACTION" {
			counters++
			if e := Check(as(m, "REPLY")); e != api.OK {
				t.Fatalf("%+v may be a COUNTER, and no REPLY: %v", m, e)
			}
		}
		if Check(as(m, "REQUEST")) == api.OK && m.Recur != -1 {
			requests++
			if e := Check(as(m, "ADD")); e != api.OK {
				t.Fatalf("%+v may be a REQUEST, and no ADD: %v", m, e)
			}
		}
		for _, method := range eight {
			if Check(as(m, method)) == api.OK {
				cancels++
				if e := Check(as(m, "CANCEL")); e != api.OK {
					t.Fatalf("%+v may be a %s, and no CANCEL: %v", m, method, e)
				}
			}
		}
	})
	if counters == 0 || requests == 0 || cancels == 0 {
		t.Errorf("%d counters, %d requests, %d messages", counters, requests, cancels)
	}
}

func TestNothingIsChanged(t *testing.T) { // Rules 4 and 5, P1
	list := append(people(1, "ACCEPTED"), api.Attendee{Addr: "!", Part: "!"})
	m := message("REPLY", 0)
	m.Attendees = list[:1]
	if s, e := Sender(m); s != "p0@x" || e != api.OK || list[1].Addr != "!" || list[0] != people(1, "ACCEPTED")[0] {
		t.Errorf("Sender: %q %v, changed to %q", s, e, list)
	}
	m.Attendees = list[:0]
	if e := Check(m); e != api.ErrMiss {
		t.Errorf("Check of a REPLY with Attendees behind its list: %v", e)
	}
	for _, m := range []api.Message{with(m, func(m *api.Message) { m.Attendees = make([]api.Attendee, 1<<20) }), with(m, func(m *api.Message) { m.Method = strings.Repeat("A", 1<<20) }), with(m, func(m *api.Message) { m.UID = strings.Repeat("\xff", 1<<20) })} {
		checkMessage(t, m)
	}
}
