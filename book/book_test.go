package book

import (
	"bytes"
	"math"
	"math/rand"
	"reflect"
	"slices"
	"strconv"
	"strings"
	"testing"
	"time"

	"posthorn/api"
	"posthorn/event"
	"posthorn/rules"
)

const last = 253402300799

// people is attendees of texts: a name, and behind a = the first letter of the answer (nothing: none was given).
func people(s string) []api.Attendee {
	var out []api.Attendee
	for _, word := range strings.Fields(s) {
		name, letter, _ := strings.Cut(word, "=")
		part := map[string]string{"": "NEEDS-ACTION", "a": "ACCEPTED", "d": "DECLINED", "t": "TENTATIVE"}[letter]
		out = append(out, api.Attendee{Addr: name + "@x", Part: part})
	}
	return out
}

// message is a message of o@x of the event u, from 100 to 160, with a mark.
func message(method string, seq int, stamp int64, attendees string) api.Message {
	m := api.Message{Method: method, UID: "u", Seq: seq, Stamp: stamp, Recur: -1, Organizer: "o@x", Attendees: people(attendees), Start: 100, End: 160, Summary: "s", Comment: "c"}
	if method == "REFRESH" {
		m.Start, m.End = -1, -1
	}
	return m
}

// with is a message that is changed.
func with(m api.Message, change func(m *api.Message)) api.Message {
	m.Attendees = slices.Clone(m.Attendees)
	change(&m)
	return m
}

// at is a message of one event of a series.
func at(m api.Message, recur int64) api.Message {
	return with(m, func(m *api.Message) { m.Recur = recur })
}

// named is a message of another event.
func named(m api.Message, uid string) api.Message {
	return with(m, func(m *api.Message) { m.UID = uid })
}

// by is a message of another organizer.
func by(m api.Message, organizer string) api.Message {
	return with(m, func(m *api.Message) { m.Organizer = organizer })
}

// full is an entry that has everything.
func full() Entry {
	return Entry{UID: "u-1@x", Recur: 60, Mark: rules.Mark{Seq: 7, Stamp: 1709164800}, Organizer: "o@x.org", Attendees: people("a=a b"), Last: []int64{1709164801, -1}, Start: 0, End: 3600, Summary: "a;b,c\\d\ne\tf é", Cancelled: true}
}

// bare is an entry with no more than it must have.
func bare() Entry {
	return Entry{UID: "u", Recur: -1, Organizer: "o@x", Start: -1, End: -1}
}

// changed is an entry that is changed.
func changed(e Entry, change func(e *Entry)) Entry {
	e = copied(e)
	change(&e)
	return e
}

func copied(e Entry) Entry {
	e.Attendees, e.Last = slices.Clone(e.Attendees), slices.Clone(e.Last)
	return e
}

// same tells whether entries are alike, with lists that are nil or empty, too.
func same(a, b Entry) bool {
	if !slices.Equal(a.Attendees, b.Attendees) || !slices.Equal(a.Last, b.Last) {
		return false
	}
	a.Attendees, a.Last, b.Attendees, b.Last = nil, nil, nil, nil
	return reflect.DeepEqual(a, b)
}

func sameAll(a, b []Entry) bool { return slices.EqualFunc(a, b, same) }

// sameMessage is the same of messages.
func sameMessage(a, b api.Message) bool {
	if !slices.Equal(a.Attendees, b.Attendees) {
		return false
	}
	a.Attendees, b.Attendees = nil, nil
	return reflect.DeepEqual(a, b)
}

func sameResult(a, b Result) bool {
	return a.Changed == b.Changed && a.To == b.To && sameMessage(a.Out, b.Out)
}

// made is a book of an owner.
func made(t *testing.T, owner string) *Book {
	t.Helper()
	b, e := New(owner)
	if b == nil || e != api.OK {
		t.Fatalf("New(%q): %v %v", owner, b, e)
	}
	return b
}

// entryOf is what an entry must be that is made of a message.
func entryOf(m api.Message) Entry {
	e := Entry{UID: m.UID, Recur: m.Recur, Mark: rules.Mark{Seq: m.Seq, Stamp: m.Stamp}, Organizer: m.Organizer, Attendees: slices.Clone(m.Attendees), Start: m.Start, End: m.End, Summary: m.Summary}
	for range m.Attendees {
		e.Last = append(e.Last, -1)
	}
	return e
}

// A slow book is a list, which is never changed, but made anew.

// slowFind is the place of the entry of a key.
func slowFind(l []Entry, uid string, recur int64) int {
	for i, e := range l {
		if e.UID == uid && e.Recur == recur {
			return i
		}
	}
	return -1
}

func slowNewer(m api.Message, e Entry) bool {
	return m.Seq > e.Mark.Seq || m.Seq == e.Mark.Seq && m.Stamp > e.Mark.Stamp
}

// slowPut is a list with an entry in the place of the one of its key, in order.
func slowPut(l []Entry, e Entry) []Entry {
	var out []Entry
	for _, old := range l {
		if old.UID != e.UID || old.Recur != e.Recur {
			out = append(out, copied(old))
		}
	}
	out = append(out, copied(e))
	for i := len(out) - 1; i > 0; i-- {
		a, b := out[i-1], out[i]
		if b.UID < a.UID || b.UID == a.UID && b.Recur < a.Recur {
			out[i-1], out[i] = b, a
		}
	}
	return out
}

// slowRenew does a PUBLISH or REQUEST.
func slowRenew(l []Entry, m api.Message) ([]Entry, api.Errno) {
	i := slowFind(l, m.UID, m.Recur)
	if i >= 0 && !slowNewer(m, l[i]) {
		return l, api.ErrOld
	}
	if len(l) >= 64 && i < 0 {
		return l, api.ErrFull
	}
	var left []Entry
	for _, e := range l {
		if m.Recur == -1 && e.UID == m.UID && e.Recur != -1 && slowNewer(m, e) {
			continue
		}
		left = append(left, e)
	}
	return slowPut(left, entryOf(m)), api.OK
}

// slowOrganizer does an organizer's message.
func slowOrganizer(owner string, l []Entry, m api.Message) ([]Entry, api.Errno) {
	if m.Method == "REQUEST" || m.Method == "ADD" || m.Method == "DECLINECOUNTER" {
		asked := false
		for _, a := range m.Attendees {
			asked = asked || a.Addr == owner
		}
		if !asked {
			return l, api.ErrOwner
		}
	}
	for _, e := range l {
		if e.UID == m.UID && e.Organizer != m.Organizer {
			return l, api.ErrAuth
		}
	}
	i := slowFind(l, m.UID, m.Recur)
	switch m.Method {
	case "PUBLISH", "REQUEST":
		return slowRenew(l, m)
	case "ADD":
		if slowFind(l, m.UID, -1) < 0 {
			return l, api.ErrUnknown
		}
		if i >= 0 {
			return l, api.ErrOld
		}
		if len(l) >= 64 {
			return l, api.ErrFull
		}
		return slowPut(l, entryOf(m)), api.OK
	}
	if i < 0 {
		return l, api.ErrUnknown
	}
	if m.Method == "DECLINECOUNTER" {
		return l, api.OK
	}
	if !slowNewer(m, l[i]) {
		return l, api.ErrOld
	}
	var out []Entry
	for _, e := range l {
		if e.UID == m.UID && (e.Recur == m.Recur || m.Recur == -1 && slowNewer(m, e)) {
			e.Cancelled, e.Mark = true, rules.Mark{Seq: m.Seq, Stamp: m.Stamp}
		}
		out = append(out, e)
	}
	return out, api.OK
}

// slowAttendee does an attendee's message.
func slowAttendee(owner string, l []Entry, m api.Message) ([]Entry, Result, api.Errno) {
	if m.Organizer != owner {
		return l, Result{}, api.ErrOwner
	}
	i := slowFind(l, m.UID, m.Recur)
	if i < 0 || l[i].Organizer != m.Organizer {
		return l, Result{}, api.ErrUnknown
	}
	e := copied(l[i])
	who := -1
	for j, a := range e.Attendees {
		if a.Addr == m.Attendees[0].Addr {
			who = j
		}
	}
	if who < 0 {
		return l, Result{}, api.ErrAuth
	}
	out := api.Message{UID: e.UID, Seq: e.Mark.Seq, Stamp: e.Mark.Stamp, Recur: e.Recur, Organizer: e.Organizer, Attendees: e.Attendees}
	switch m.Method {
	case "REFRESH":
		out.Method, out.Start, out.End, out.Summary = "REQUEST", e.Start, e.End, e.Summary
		return l, Result{To: m.Attendees[0].Addr, Out: out}, api.OK
	case "COUNTER":
		out.Method, out.Start, out.End = "DECLINECOUNTER", -1, -1
		out.Attendees = []api.Attendee{e.Attendees[who]}
		return l, Result{To: m.Attendees[0].Addr, Out: out}, api.OK
	}
	if m.Seq < e.Mark.Seq || m.Stamp <= e.Last[who] {
		return l, Result{}, api.ErrOld
	}
	if m.Seq > e.Mark.Seq {
		return l, Result{}, api.ErrUnknown
	}
	e.Attendees[who].Part, e.Last[who] = m.Attendees[0].Part, m.Stamp
	return slowPut(l, e), Result{Changed: true}, api.OK
}

// slowApply is what Apply must do and answer.
func slowApply(owner string, l []Entry, from string, m api.Message) ([]Entry, Result, api.Errno) {
	if e := rules.Check(m); e != api.OK {
		return l, Result{}, e
	}
	switch m.Method {
	case "REPLY", "REFRESH", "COUNTER":
		if from != m.Attendees[0].Addr {
			return l, Result{}, api.ErrAuth
		}
		return slowAttendee(owner, l, m)
	}
	if from != m.Organizer {
		return l, Result{}, api.ErrAuth
	}
	out, e := slowOrganizer(owner, l, m)
	return out, Result{Changed: !sameAll(out, l)}, e
}

// slowOwn is what Own must do and answer.
func slowOwn(owner string, l []Entry, m api.Message) ([]Entry, api.Errno) {
	if e := rules.Check(m); e != api.OK {
		return l, e
	}
	if m.Method != "REQUEST" {
		return l, api.ErrMethod
	}
	if m.Organizer != owner {
		return l, api.ErrOwner
	}
	for _, old := range l {
		if old.UID == m.UID && old.Organizer != owner {
			return l, api.ErrAuth
		}
	}
	return slowRenew(l, m)
}

// apply does a message that must be done so, and holds it against the slow book.
func apply(t *testing.T, b *Book, from string, m api.Message, want api.Errno) Result {
	t.Helper()
	before := b.Entries()
	after, result, e := slowApply(b.Owner(), before, from, m)
	got, code := b.Apply(from, m)
	if code != want || code != e || !sameResult(got, result) {
		t.Fatalf("Apply(%q, %+v) to %+v: %+v %v, not %+v %v (%v)", from, m, before, got, code, result, e, want)
	}
	if now := b.Entries(); !sameAll(now, after) {
		t.Fatalf("Apply(%q, %+v) to %+v: %+v, not %+v", from, m, before, now, after)
	}
	return got
}

// own is the same of Own.
func own(t *testing.T, b *Book, m api.Message, want api.Errno) {
	t.Helper()
	before := b.Entries()
	after, e := slowOwn(b.Owner(), before, m)
	if code := b.Own(m); code != want || code != e {
		t.Fatalf("Own(%+v) to %+v: %v, not %v (%v)", m, before, code, e, want)
	}
	if now := b.Entries(); !sameAll(now, after) {
		t.Fatalf("Own(%+v) to %+v: %+v, not %+v", m, before, now, after)
	}
}

// fill puts entries of other events in, until there are so many.
func fill(t *testing.T, b *Book, n int) {
	t.Helper()
	for i := len(b.Entries()); i < n; i++ {
		if e := b.Put(changed(bare(), func(e *Entry) { e.UID = "z" + strconv.Itoa(i) })); e != api.OK {
			t.Fatalf("Put of number %d: %v", i, e)
		}
	}
}

func TestExamples(t *testing.T) { // P15.1
	b := made(t, "a@x")
	m := message("REQUEST", 0, 0, "a")
	if r, e := b.Apply("o@x", m); e != api.OK || !r.Changed || len(b.Entries()) != 1 {
		t.Errorf("a REQUEST: %+v %v", r, e)
	}
	if r, e := b.Apply("o@x", m); e != api.ErrOld || !sameResult(r, Result{}) || len(b.Entries()) != 1 {
		t.Errorf("again: %+v %v", r, e)
	}
}

func TestNew(t *testing.T) { // P15.1
	for _, owner := range []string{"a@x", "a.b@x.org", "!#$%&'*+-/=?^_{|}`@9-9", strings.Repeat("a", 64) + "@" + strings.Repeat("b", 63)} {
		b := made(t, owner)
		if b.Owner() != owner || len(b.Entries()) != 0 {
			t.Errorf("New(%q): %q %v", owner, b.Owner(), b.Entries())
		}
	}
	for _, owner := range []string{"", "a", "@", "a@", "@x", "A@x", "a@X", "a@x ", " a@x", "a@x@y", "<a@x>", "N <a@x>", "mailto:a@x", "a@x.", "a..b@x", "a@-x", "é@x", "a@x\x00", strings.Repeat("a", 65) + "@x", strings.Repeat("a", 1<<20)} {
		if b, e := New(owner); b != nil || e != api.ErrAddr {
			t.Errorf("New(%.40q): %v %v", owner, b, e)
		}
	}
}

func TestNoBook(t *testing.T) { // P15.1, P1
	for _, b := range []*Book{nil, {}, new(Book)} {
		if b.Owner() != "" || len(b.Entries()) != 0 {
			t.Errorf("%v: %q %v", b, b.Owner(), b.Entries())
		}
		for _, m := range []api.Message{{}, message("REQUEST", 0, 0, "a"), message("REPLY", 0, 0, "a=a")} {
			if e := b.Own(m); e != api.ErrNil {
				t.Errorf("Own: %v", e)
			}
			if r, e := b.Apply("o@x", m); e != api.ErrNil || !sameResult(r, Result{}) {
				t.Errorf("Apply: %v %v", r, e)
			}
		}
		for _, entry := range []Entry{{}, bare(), full()} {
			if e := b.Put(entry); e != api.ErrNil {
				t.Errorf("Put: %v", e)
			}
		}
		if b.Owner() != "" || len(b.Entries()) != 0 {
			t.Errorf("%v, then: %q %v", b, b.Owner(), b.Entries())
		}
	}
}

func TestOrder(t *testing.T) { // P15.1
	var want []Entry
	for _, uid := range []string{"!", "A", "a", "a!", "aa", "b", "u9", "~"} {
		for _, recur := range []int64{-1, 0, 1, 9, 10, last} {
			want = append(want, changed(bare(), func(e *Entry) { e.UID, e.Recur = uid, recur }))
		}
	}
	for seed := range int64(20) {
		b := made(t, "a@x")
		for _, i := range rand.New(rand.NewSource(seed)).Perm(len(want)) {
			if e := b.Put(want[i]); e != api.OK {
				t.Fatalf("Put: %v", e)
			}
		}
		if got := b.Entries(); !sameAll(got, want) {
			t.Fatalf("Entries: %+v", got)
		}
	}
}

func TestCheckFirst(t *testing.T) { // P15.1
	for _, c := range []struct {
		m    api.Message
		want api.Errno
	}{
		{api.Message{}, api.ErrEvent},
		{message("OTHER", 0, 0, "a"), api.ErrMethod},
		{by(message("REQUEST", 0, 0, "a"), ""), api.ErrMiss},
		{message("REQUEST", 0, 0, ""), api.ErrMiss},
		{message("PUBLISH", 0, 0, "a"), api.ErrMore},
		{message("REPLY", 0, 0, "a"), api.ErrForm},
		{message("ADD", 0, 0, "a"), api.ErrMiss},
		{with(message("REFRESH", 0, 0, "a"), func(m *api.Message) { m.Start = 0 }), api.ErrMore},
		{with(message("REQUEST", 0, 0, "a"), func(m *api.Message) { m.Seq = -1 }), api.ErrEvent},
	} {
		// Ahead of who sent it, and whose it is.
		for _, from := range []string{"o@x", "a@x", "q@x", ""} {
			for _, owner := range []string{"a@x", "o@x", "q@x"} {
				apply(t, made(t, owner), from, c.m, c.want)
				own(t, made(t, owner), c.m, c.want)
			}
		}
	}
}

func TestSender(t *testing.T) { // P15.1, P15.4
	for _, method := range rules.Methods() {
		m := at(message(method, 1, 5, "a=a"), 50)
		sender := "o@x"
		if method == "PUBLISH" {
			m.Attendees = nil
		}
		if rules.Role(method) == rules.Attendee {
			sender = "a@x"
		}
		for _, owner := range []string{"o@x", "a@x", "q@x"} {
			for _, from := range []string{"", "o@x", "a@x", "q@x", "O@x", "o@X", "A@X", " o@x", "o@x ", "mailto:o@x", "<o@x>", "a@x,o@x"} {
				b := made(t, owner)
				b.Put(entryOf(message("REQUEST", 1, 1, "a b")))
				b.Put(entryOf(at(message("REQUEST", 1, 1, "a b"), 50)))
				before := b.Entries()
				r, e := b.Apply(from, m)
				if from != sender && (e != api.ErrAuth || !sameAll(b.Entries(), before) || !sameResult(r, Result{})) {
					t.Errorf("%s of %q to %s: %v", method, from, owner, e)
				}
				if from == sender && e == api.ErrAuth {
					t.Errorf("%s of %q to %s: %v", method, from, owner, e)
				}
			}
		}
	}
}

func TestOwnerIsAsked(t *testing.T) { // P15.1
	for _, c := range []struct {
		method string
		want   api.Errno
	}{{"REQUEST", api.ErrOwner}, {"ADD", api.ErrOwner}, {"DECLINECOUNTER", api.ErrOwner}, {"PUBLISH", api.OK}, {"CANCEL", api.OK}} {
		m := at(message(c.method, 2, 2, "b"), 50)
		if c.method == "PUBLISH" {
			m.Attendees = nil
		}
		b := made(t, "a@x")
		b.Put(entryOf(message("REQUEST", 1, 1, "a b")))
		if c.method != "ADD" {
			b.Put(entryOf(at(message("REQUEST", 1, 1, "a b"), 50)))
		}
		apply(t, b, "o@x", m, c.want)
		if c.want == api.ErrOwner {
			apply(t, b, "o@x", with(m, func(m *api.Message) { m.Attendees = people("a") }), api.OK)
		}
	}
	// An organizer who keeps their own book is asked nothing, unless they ask themselves.
	b := made(t, "o@x")
	apply(t, b, "o@x", message("REQUEST", 0, 0, "a"), api.ErrOwner)
	apply(t, b, "o@x", message("REQUEST", 0, 0, "a o"), api.OK)
	// Who is asked stands anywhere among them.
	var many []string
	for i := range 31 {
		many = append(many, "p"+strconv.Itoa(i))
	}
	for i := range 32 {
		b := made(t, "a@x")
		apply(t, b, "o@x", message("REQUEST", 0, 0, strings.Join(slices.Insert(slices.Clone(many), i, "a"), " ")), api.OK)
	}
	// ErrOwner is told ahead of ErrAuth.
	b = made(t, "a@x")
	apply(t, b, "o@x", message("REQUEST", 0, 0, "a"), api.OK)
	apply(t, b, "p@x", by(message("REQUEST", 1, 0, "b"), "p@x"), api.ErrOwner)
	apply(t, b, "p@x", by(message("REQUEST", 1, 0, "a"), "p@x"), api.ErrAuth)
}

func TestAnotherOrganizer(t *testing.T) { // P15.1, P15.4
	for _, method := range []string{"PUBLISH", "REQUEST", "ADD", "CANCEL", "DECLINECOUNTER"} {
		for _, recur := range []int64{-1, 50, 60} {
			if method == "ADD" && recur == -1 {
				continue
			}
			m := at(by(message(method, 9, 9, "a"), "p@x"), recur)
			if method == "PUBLISH" {
				m.Attendees = nil
			}
			// An entry of another Recur refuses it, too.
			for _, there := range []int64{-1, 50} {
				b := made(t, "a@x")
				b.Put(entryOf(at(message("REQUEST", 1, 1, "a"), there)))
				apply(t, b, "p@x", m, api.ErrAuth)
			}
			// One of another UID does not.
			b := made(t, "a@x")
			b.Put(entryOf(message("REQUEST", 1, 1, "a")))
			if _, e := b.Apply("p@x", named(m, "u2")); e == api.ErrAuth {
				t.Errorf("%s of another UID: %v", method, e)
			}
		}
	}
	// One of two is enough.
	b := made(t, "a@x")
	b.Put(entryOf(message("REQUEST", 1, 1, "a")))
	b.Put(entryOf(by(at(message("REQUEST", 1, 1, "a"), 50), "p@x")))
	apply(t, b, "o@x", message("REQUEST", 2, 2, "a"), api.ErrAuth)
	apply(t, b, "p@x", by(at(message("CANCEL", 2, 2, "a"), 50), "p@x"), api.ErrAuth)
}

func TestRenew(t *testing.T) { // P15.1, P15.6
	marks := []rules.Mark{{Seq: 0, Stamp: 0}, {Seq: 0, Stamp: 5}, {Seq: 1, Stamp: 0}, {Seq: 1, Stamp: 5}, {Seq: 1, Stamp: 6}, {Seq: 2, Stamp: 0}, {Seq: math.MaxInt32, Stamp: last}}
	for _, method := range []string{"REQUEST", "PUBLISH"} {
		for i, old := range marks {
			for j, mark := range marks {
				for _, recur := range []int64{-1, 0, 50} {
					first := at(message(method, old.Seq, old.Stamp, "a"), recur)
					next := with(first, func(m *api.Message) {
						m.Seq, m.Stamp, m.Start, m.End, m.Summary, m.Attendees = mark.Seq, mark.Stamp, 7, -1, "new", people("c=d a=t")
					})
					if method == "PUBLISH" {
						first.Attendees, next.Attendees = nil, nil
					}
					b := made(t, "a@x")
					apply(t, b, "o@x", first, api.OK)
					want := api.OK
					if j <= i {
						want = api.ErrOld
					}
					apply(t, b, "o@x", next, want)
					if got := b.Entries(); len(got) != 1 || want == api.OK && !same(got[0], entryOf(next)) || want != api.OK && !same(got[0], entryOf(first)) {
						t.Fatalf("%v behind %v: %+v", mark, old, got)
					}
				}
			}
		}
	}
}

func TestRenewedAnswers(t *testing.T) { // P15.1
	b := made(t, "o@x")
	own(t, b, message("REQUEST", 0, 0, "a b"), api.OK)
	apply(t, b, "a@x", message("REPLY", 0, 9, "a=a"), api.OK)
	apply(t, b, "o@x", message("CANCEL", 1, 0, ""), api.OK)
	// An entry that is made anew was never answered, and is not Cancelled.
	own(t, b, message("REQUEST", 1, 1, "b a"), api.OK)
	if got := b.Entries(); len(got) != 1 || got[0].Cancelled || !slices.Equal(got[0].Last, []int64{-1, -1}) || got[0].Attendees[1].Part != "NEEDS-ACTION" {
		t.Errorf("made anew: %+v", got)
	}
	apply(t, b, "a@x", message("REPLY", 1, 1, "a=d"), api.OK)
}

// recurs is the Recurs of a book's entries of the event u.
func recurs(b *Book) []int64 {
	var out []int64
	for _, e := range b.Entries() {
		if e.UID == "u" {
			out = append(out, e.Recur)
		}
	}
	return out
}

// seriesOf is a book of a@x with a series, and with three more events of it, of the marks 1.1, 1.5 and 3.0, and one of another series.
func seriesOf(t *testing.T) *Book {
	t.Helper()
	b := made(t, "a@x")
	apply(t, b, "o@x", message("REQUEST", 0, 0, "a"), api.OK)
	apply(t, b, "o@x", at(message("ADD", 1, 1, "a"), 0), api.OK)
	apply(t, b, "o@x", at(message("ADD", 1, 5, "a"), 50), api.OK)
	apply(t, b, "o@x", at(message("REQUEST", 3, 0, "a"), 60), api.OK)
	apply(t, b, "o@x", named(at(message("REQUEST", 0, 0, "a"), 50), "v"), api.OK)
	return b
}

func TestRenewedSeries(t *testing.T) { // P15.1
	for _, c := range []struct {
		seq   int
		stamp int64
		want  []int64
	}{
		{0, 1, []int64{-1, 0, 50, 60}},
		{1, 1, []int64{-1, 0, 50, 60}},
		{1, 2, []int64{-1, 50, 60}},
		{1, 5, []int64{-1, 50, 60}},
		{1, 6, []int64{-1, 60}},
		{3, 0, []int64{-1, 60}},
		{3, 1, []int64{-1}},
		{9, 0, []int64{-1}},
	} {
		for _, method := range []string{"REQUEST", "PUBLISH"} {
			m := message(method, c.seq, c.stamp, "a")
			if method == "PUBLISH" {
				m.Attendees = nil
			}
			b := seriesOf(t)
			apply(t, b, "o@x", m, api.OK)
			if got := recurs(b); !slices.Equal(got, c.want) {
				t.Errorf("a %s of %d.%d leaves %v", method, c.seq, c.stamp, got)
			}
			if len(b.Entries()) != len(c.want)+1 {
				t.Errorf("a %s of %d.%d touches another series: %+v", method, c.seq, c.stamp, b.Entries())
			}
			// A message of one event of it takes none away, nor does one that is refused.
			b = seriesOf(t)
			apply(t, b, "o@x", at(m, 70), api.OK)
			if got := recurs(b); !slices.Equal(got, []int64{-1, 0, 50, 60, 70}) {
				t.Errorf("a %s of one event leaves %v", method, got)
			}
		}
	}
	b := seriesOf(t)
	apply(t, b, "o@x", message("REQUEST", 0, 0, "a"), api.ErrOld)
	if len(b.Entries()) != 5 {
		t.Errorf("what was old: %+v", b.Entries())
	}
}

func TestAdd(t *testing.T) { // P15.1
	b := made(t, "a@x")
	m := at(message("ADD", 1, 1, "a b=a"), 50)
	apply(t, b, "o@x", m, api.ErrUnknown)
	// Another event of the series is not the series.
	apply(t, b, "o@x", at(message("REQUEST", 0, 0, "a"), 60), api.OK)
	apply(t, b, "o@x", m, api.ErrUnknown)
	apply(t, b, "o@x", at(m, 60), api.ErrUnknown)
	apply(t, b, "o@x", named(message("REQUEST", 0, 0, "a"), "v"), api.OK)
	apply(t, b, "o@x", m, api.ErrUnknown)
	apply(t, b, "o@x", message("REQUEST", 0, 0, "a"), api.OK)
	if r := apply(t, b, "o@x", m, api.OK); !r.Changed || r.To != "" {
		t.Errorf("an ADD: %+v", r)
	}
	if got := b.Entries(); !same(got[1], entryOf(m)) {
		t.Errorf("an ADD: %+v", got)
	}
	// However new it is.
	for _, seq := range []int{0, 1, 9} {
		apply(t, b, "o@x", with(m, func(m *api.Message) { m.Seq, m.Stamp = seq, 9 }), api.ErrOld)
	}
	// However old it is, if there is none.
	apply(t, b, "o@x", message("REQUEST", 5, 5, "a"), api.OK)
	apply(t, b, "o@x", at(message("ADD", 0, 0, "a"), 70), api.OK)
}

func TestCancel(t *testing.T) { // P15.1, P15.6
	for _, c := range []struct {
		seq   int
		stamp int64
		want  string
	}{
		{0, 1, "-1"}, {1, 1, "-1"}, {1, 2, "-1 0"}, {1, 5, "-1 0"}, {1, 6, "-1 0 50"}, {3, 0, "-1 0 50"}, {3, 1, "-1 0 50 60"}, {9, 0, "-1 0 50 60"},
	} {
		b := seriesOf(t)
		before := b.Entries()
		if r := apply(t, b, "o@x", with(message("CANCEL", c.seq, c.stamp, "q"), func(m *api.Message) { m.Start, m.End, m.Summary = 9, 99, "gone" }), api.OK); !r.Changed || r.To != "" {
			t.Errorf("a CANCEL: %+v", r)
		}
		var got []string
		for i, e := range b.Entries() {
			if e.Cancelled {
				got = append(got, strconv.FormatInt(e.Recur, 10))
				// It changes nothing but that, and the mark.
				if e.Mark != (rules.Mark{Seq: c.seq, Stamp: c.stamp}) || e.UID != "u" {
					t.Errorf("cancelled: %+v", e)
				}
				e.Cancelled, e.Mark = false, before[i].Mark
			}
			if !same(e, before[i]) {
				t.Errorf("a CANCEL of %d.%d: %+v", c.seq, c.stamp, e)
			}
		}
		if strings.Join(got, " ") != c.want {
			t.Errorf("a CANCEL of %d.%d: %v", c.seq, c.stamp, got)
		}
	}
	b := seriesOf(t)
	apply(t, b, "o@x", at(message("CANCEL", 2, 0, ""), 50), api.OK)
	if got := b.Entries(); got[0].Cancelled || got[1].Cancelled || !got[2].Cancelled || got[3].Cancelled {
		t.Errorf("a CANCEL of one event: %+v", got)
	}
	apply(t, b, "o@x", at(message("CANCEL", 2, 0, ""), 50), api.ErrOld)
	apply(t, b, "o@x", at(message("CANCEL", 2, 1, ""), 50), api.OK)
	apply(t, b, "o@x", at(message("CANCEL", 2, 9, ""), 60), api.ErrOld)
	apply(t, b, "o@x", message("CANCEL", 0, 0, ""), api.ErrOld)
	apply(t, b, "o@x", at(message("CANCEL", 9, 9, ""), 70), api.ErrUnknown)
	apply(t, b, "o@x", named(message("CANCEL", 9, 9, ""), "v"), api.ErrUnknown)
	apply(t, b, "o@x", named(message("CANCEL", 9, 9, ""), "w"), api.ErrUnknown)
}

func TestDeclineCounter(t *testing.T) { // P15.1
	b := seriesOf(t)
	for _, recur := range []int64{-1, 0, 50, 60} {
		for _, seq := range []int{0, 9} {
			if r := apply(t, b, "o@x", at(message("DECLINECOUNTER", seq, 9, "a"), recur), api.OK); !sameResult(r, Result{}) {
				t.Errorf("a DECLINECOUNTER: %+v", r)
			}
		}
	}
	apply(t, b, "o@x", at(message("DECLINECOUNTER", 9, 9, "a"), 70), api.ErrUnknown)
	apply(t, b, "o@x", named(message("DECLINECOUNTER", 9, 9, "a"), "v"), api.ErrUnknown)
}

// asked is a book of o@x with an entry of the mark 1.5, to which a@x and b@x are asked.
func asked(t *testing.T) *Book {
	t.Helper()
	b := made(t, "o@x")
	own(t, b, message("REQUEST", 1, 5, "a b=t"), api.OK)
	return b
}

func TestAttendeesMethods(t *testing.T) { // P15.1, P15.4
	for _, method := range []string{"REPLY", "REFRESH", "COUNTER"} {
		m := message(method, 1, 9, "a=a")
		apply(t, asked(t), "a@x", m, api.OK)
		apply(t, asked(t), "a@x", by(m, "p@x"), api.ErrOwner)
		apply(t, asked(t), "a@x", at(m, 50), api.ErrUnknown)
		apply(t, asked(t), "a@x", named(m, "v"), api.ErrUnknown)
		apply(t, asked(t), "q@x", with(m, func(m *api.Message) { m.Attendees = people("q=a") }), api.ErrAuth)
		apply(t, asked(t), "o@x", with(m, func(m *api.Message) { m.Attendees = people("o=a") }), api.ErrAuth)
		apply(t, asked(t), "b@x", m, api.ErrAuth)
		apply(t, asked(t), "o@x", m, api.ErrAuth)
		// To a book that is not the Organizer's, even if the entry is there.
		b := made(t, "a@x")
		apply(t, b, "o@x", message("REQUEST", 1, 5, "a b"), api.OK)
		apply(t, b, "b@x", with(m, func(m *api.Message) { m.Attendees = people("b=a") }), api.ErrOwner)
		apply(t, b, "a@x", m, api.ErrOwner)
		// The entry of another Organizer in the Owner's book is unknown; and that is told ahead of who is asked.
		b = made(t, "o@x")
		apply(t, b, "p@x", by(message("REQUEST", 1, 5, "a o"), "p@x"), api.OK)
		apply(t, b, "a@x", m, api.ErrUnknown)
		apply(t, b, "q@x", with(m, func(m *api.Message) { m.Attendees = people("q=a") }), api.ErrUnknown)
		// And ErrOwner ahead of ErrUnknown.
		apply(t, b, "a@x", by(named(m, "v"), "p@x"), api.ErrOwner)
	}
}

func TestReply(t *testing.T) { // P15.1, P15.5
	for _, part := range []string{"a", "d", "t"} {
		b := asked(t)
		before := b.Entries()
		r := apply(t, b, "b@x", with(message("REPLY", 1, 0, "b="+part), func(m *api.Message) { m.Start, m.End, m.Summary = -1, -1, "other" }), api.OK)
		if !r.Changed || r.To != "" || !sameMessage(r.Out, api.Message{}) {
			t.Errorf("a REPLY: %+v", r)
		}
		want := copied(before[0])
		want.Attendees[1], want.Last[1] = people("b=" + part)[0], 0
		if got := b.Entries(); len(got) != 1 || !same(got[0], want) {
			t.Errorf("a REPLY: %+v, not %+v", got, want)
		}
	}
	b := asked(t)
	apply(t, b, "a@x", message("REPLY", 1, 7, "a=a"), api.OK)
	// Its own last answer counts, not the entry's Stamp, nor another's answer.
	apply(t, b, "a@x", message("REPLY", 1, 7, "a=d"), api.ErrOld)
	apply(t, b, "a@x", message("REPLY", 1, 6, "a=d"), api.ErrOld)
	apply(t, b, "b@x", message("REPLY", 1, 3, "b=d"), api.OK)
	apply(t, b, "a@x", message("REPLY", 1, 8, "a=d"), api.OK)
	apply(t, b, "a@x", message("REPLY", 1, 9, "a=d"), api.OK)
	// Its Seq must be the entry's; what is old in its Stamp alone is told so first.
	apply(t, b, "a@x", message("REPLY", 0, 99, "a=a"), api.ErrOld)
	apply(t, b, "a@x", message("REPLY", 2, 99, "a=a"), api.ErrUnknown)
	apply(t, b, "a@x", message("REPLY", 2, 9, "a=a"), api.ErrOld)
	apply(t, b, "a@x", message("REPLY", math.MaxInt32, last, "a=a"), api.ErrUnknown)
	apply(t, b, "a@x", message("REPLY", 1, last, "a=a"), api.OK)
	apply(t, b, "a@x", message("REPLY", 1, last, "a=d"), api.ErrOld)
	// Of one event of a series it changes that one alone.
	own(t, b, at(message("REQUEST", 1, 6, "a b"), 50), api.OK)
	apply(t, b, "a@x", at(message("REPLY", 1, 1, "a=t"), 50), api.OK)
	if got := b.Entries(); got[0].Attendees[0].Part != "ACCEPTED" || got[1].Attendees[0].Part != "TENTATIVE" {
		t.Errorf("of one event: %+v", got)
	}
	// A cancelled entry may still be answered.
	apply(t, b, "o@x", at(message("CANCEL", 2, 0, ""), 50), api.OK)
	apply(t, b, "b@x", at(message("REPLY", 2, 0, "b=a"), 50), api.OK)
}

func TestRefreshAndCounter(t *testing.T) { // P15.1
	b := asked(t)
	apply(t, b, "a@x", message("REPLY", 1, 9, "a=a"), api.OK)
	for _, seq := range []int{0, 1, 2} {
		r := apply(t, b, "a@x", message("REFRESH", seq, 3, "a=d"), api.OK)
		want := message("REQUEST", 1, 5, "a=a b=t")
		want.Comment = ""
		if r.Changed || r.To != "a@x" || !sameMessage(r.Out, want) || rules.Check(r.Out) != api.OK {
			t.Errorf("a REFRESH: %+v, not %+v", r, want)
		}
		r = apply(t, b, "b@x", with(message("COUNTER", seq, 3, "b=d"), func(m *api.Message) { m.Start, m.End = 7, 9 }), api.OK)
		want = api.Message{Method: "DECLINECOUNTER", UID: "u", Seq: 1, Stamp: 5, Recur: -1, Organizer: "o@x", Attendees: people("b=t"), Start: -1, End: -1}
		if r.Changed || r.To != "b@x" || !sameMessage(r.Out, want) || rules.Check(r.Out) != api.OK {
			t.Errorf("a COUNTER: %+v, not %+v", r, want)
		}
	}
	own(t, b, at(message("REQUEST", 4, 6, "c"), 50), api.OK)
	for _, method := range []string{"REFRESH", "COUNTER"} {
		r := apply(t, b, "c@x", at(message(method, 0, 0, "c"), 50), api.OK)
		if r.To != "c@x" || r.Out.Recur != 50 || r.Out.Seq != 4 || r.Out.Stamp != 6 {
			t.Errorf("a %s of one event: %+v", method, r)
		}
	}
	// What goes out can be done by the book that it goes to.
	theirs := made(t, "a@x")
	r := apply(t, b, "a@x", message("REFRESH", 0, 0, "a"), api.OK)
	apply(t, theirs, "o@x", r.Out, api.OK)
	r = apply(t, b, "a@x", message("COUNTER", 0, 0, "a"), api.OK)
	apply(t, theirs, "o@x", r.Out, api.OK)
}

func TestOwn(t *testing.T) { // P15.1
	b := made(t, "o@x")
	for _, method := range rules.Methods() {
		m := at(message(method, 0, 0, "a=a"), 50)
		switch method {
		case "REQUEST":
			continue
		case "PUBLISH":
			m.Attendees = nil
		}
		own(t, b, m, api.ErrMethod)
		own(t, b, by(m, "p@x"), api.ErrMethod)
	}
	own(t, b, by(message("REQUEST", 0, 0, "a"), "p@x"), api.ErrOwner)
	own(t, b, by(message("REQUEST", 0, 0, "o"), "p@x"), api.ErrOwner)
	own(t, b, message("REQUEST", 0, 0, "a"), api.OK)
	own(t, b, message("REQUEST", 0, 0, "a"), api.ErrOld)
	own(t, b, message("REQUEST", 0, 1, "a o"), api.OK)
	own(t, b, at(message("REQUEST", 0, 0, "a"), 50), api.OK)
	own(t, b, message("REQUEST", 1, 0, "a"), api.OK)
	if got := recurs(b); !slices.Equal(got, []int64{-1}) {
		t.Errorf("the series anew: %v", got)
	}
	fill(t, b, 64)
	own(t, b, named(message("REQUEST", 0, 0, "a"), "w"), api.ErrFull)
	own(t, b, message("REQUEST", 1, 0, "a"), api.ErrOld)
	own(t, b, message("REQUEST", 2, 0, "a"), api.OK)
}

// An owner's own event is refused beside an entry of another organizer, as one that was sent to them is.
func TestOwnBesideAnother(t *testing.T) { // P15.1, P15.4
	for _, there := range []int64{-1, 0, 50} {
		for _, recur := range []int64{-1, 0, 50, 60} {
			for _, seq := range []int{0, 1, 2} { // Older, as old and newer: ErrAuth is told ahead of ErrOld.
				for _, attendees := range []string{"b", "a b", "a"} {
					b := made(t, "a@x")
					b.Put(entryOf(at(message("REQUEST", 1, 1, "a"), there)))
					m := by(at(message("REQUEST", seq, 1, attendees), recur), "a@x")
					own(t, b, m, api.ErrAuth)
					own(t, b, named(m, "u2"), api.OK)
				}
			}
		}
	}
	// What is another Organizer's stays so when it is called off.
	b := made(t, "a@x")
	apply(t, b, "o@x", message("REQUEST", 1, 0, "a"), api.OK)
	apply(t, b, "o@x", message("CANCEL", 2, 0, "a"), api.OK)
	own(t, b, by(message("REQUEST", 3, 0, "b"), "a@x"), api.ErrAuth)
	// One of two is enough, and the owner's own one does not help.
	b = made(t, "a@x")
	own(t, b, by(message("REQUEST", 1, 0, "b"), "a@x"), api.OK)
	b.Put(entryOf(at(message("REQUEST", 1, 1, "a"), 50)))
	own(t, b, by(message("REQUEST", 2, 0, "b"), "a@x"), api.ErrAuth)
	// What Own asks first is told first, and ErrAuth ahead of ErrFull.
	own(t, b, by(message("REQUEST", 2, 0, ""), "a@x"), api.ErrMiss)
	own(t, b, by(message("CANCEL", 2, 0, "b"), "a@x"), api.ErrMethod)
	own(t, b, message("REQUEST", 2, 0, "b"), api.ErrOwner)
	fill(t, b, 64)
	own(t, b, by(at(message("REQUEST", 2, 0, "b"), 60), "a@x"), api.ErrAuth)
	own(t, b, by(named(message("REQUEST", 2, 0, "b"), "w"), "a@x"), api.ErrFull)
}

func TestFull(t *testing.T) { // P15.1, P15.2
	b := seriesOf(t)
	fill(t, b, 63)
	apply(t, b, "o@x", named(message("REQUEST", 0, 0, "a"), "w"), api.OK)
	if len(b.Entries()) != 64 {
		t.Fatalf("%d entries", len(b.Entries()))
	}
	apply(t, b, "o@x", named(message("REQUEST", 0, 0, "a"), "w2"), api.ErrFull)
	apply(t, b, "o@x", named(message("PUBLISH", 0, 0, ""), "w2"), api.ErrFull)
	apply(t, b, "o@x", at(message("ADD", 0, 0, "a"), 70), api.ErrFull)
	apply(t, b, "o@x", at(message("ADD", 0, 0, "a"), 50), api.ErrOld)
	apply(t, b, "o@x", at(named(message("ADD", 0, 0, "a"), "w2"), 50), api.ErrUnknown)
	// Those of which there is one are no others.
	apply(t, b, "o@x", at(message("REQUEST", 9, 0, "a"), 50), api.OK)
	apply(t, b, "o@x", at(message("REQUEST", 9, 0, "a"), 50), api.ErrOld)
	if e := b.Put(changed(bare(), func(e *Entry) { e.UID = "w2" })); e != api.ErrFull || len(b.Entries()) != 64 {
		t.Errorf("Put of one more: %v", e)
	}
	if e := b.Put(changed(bare(), func(e *Entry) { e.UID, e.Summary = "w", "new" })); e != api.OK || len(b.Entries()) != 64 {
		t.Errorf("Put in the place of one: %v", e)
	}
	if e := b.Put(changed(bare(), func(e *Entry) { e.UID, e.Organizer = "w2", "" })); e != api.ErrEvent {
		t.Errorf("Put of what may not be: %v", e)
	}
	// A series that is new does not make room for itself by what goes with it.
	b = made(t, "a@x")
	for i := range 64 {
		b.Put(entryOf(at(message("REQUEST", 0, 0, "a"), int64(i))))
	}
	apply(t, b, "o@x", message("REQUEST", 1, 0, "a"), api.ErrFull)
	apply(t, b, "o@x", at(message("REQUEST", 1, 0, "a"), 0), api.OK)
	// What goes makes room for others.
	b = seriesOf(t)
	fill(t, b, 64)
	apply(t, b, "o@x", message("REQUEST", 9, 0, "a"), api.OK)
	apply(t, b, "o@x", at(message("ADD", 0, 0, "a"), 70), api.OK)
	fill(t, b, 64)
}

// someEvent is a message of few UIDs, Recurs, marks and persons, so that many meet.
func someEvent(r *rand.Rand, method string) api.Message {
	names := []string{"a", "b", "c", "o", "p"}
	m := api.Message{Method: method, UID: []string{"u", "v"}[r.Intn(2)], Seq: r.Intn(3), Stamp: int64(r.Intn(4)), Recur: int64(r.Intn(4)*10 - 1), Start: int64(r.Intn(5)), End: -1, Summary: []string{"", "s"}[r.Intn(2)]}
	if m.Recur != -1 {
		m.Recur++
	}
	m.Organizer = names[r.Intn(len(names))] + "@x"
	if r.Intn(3) > 0 {
		m.Organizer = "o@x"
	}
	count := 1 + r.Intn(3)
	switch method {
	case "PUBLISH":
		count = 0
	case "REPLY", "REFRESH", "COUNTER", "DECLINECOUNTER":
		count = 1
	}
	for _, i := range r.Perm(len(names))[:count] {
		m.Attendees = append(m.Attendees, people(names[i]+[]string{"", "=a", "=d", "=t"}[r.Intn(4)])...)
	}
	if method == "REFRESH" {
		m.Start = -1
	}
	return m
}

// follows holds what follows of a message that was done or refused.
func follows(t *testing.T, before, after []Entry, from string, m api.Message, r Result, e api.Errno) {
	t.Helper()
	sender, _ := rules.Sender(m)
	if (e != api.OK || from != sender) && (!sameAll(before, after) || !sameResult(r, Result{})) {
		t.Fatalf("%+v was refused with %v, and changed %+v to %+v", m, e, before, after)
	}
	if r.Changed == sameAll(before, after) {
		t.Fatalf("%+v: Changed %v, of %+v to %+v", m, r.Changed, before, after)
	}
	touched := 0
	for _, old := range before {
		i := slowFind(after, old.UID, old.Recur)
		if i >= 0 && same(after[i], old) {
			continue
		}
		touched++
		if old.Organizer != m.Organizer || old.UID != m.UID {
			t.Fatalf("%+v changed %+v", m, old)
		}
		if i >= 0 && rules.Newer(old.Mark, after[i].Mark) {
			t.Fatalf("%+v: a mark went back from %+v to %+v", m, old, after[i])
		}
	}
	if m.Method == "REPLY" && e == api.OK {
		i := slowFind(after, m.UID, m.Recur)
		j := slices.IndexFunc(after[i].Attendees, func(a api.Attendee) bool { return a.Addr == from })
		want := copied(before[i])
		want.Attendees[j].Part, want.Last[j] = m.Attendees[0].Part, m.Stamp
		if len(before) != len(after) || touched != 1 || !same(after[i], want) {
			t.Fatalf("a REPLY changed %+v to %+v", before, after)
		}
	}
}

func TestManyMessages(t *testing.T) { // P15.1, P15.4, P15.5, P15.6
	counts := map[string]int{}
	methods := append(rules.Methods(), "REQUEST", "REQUEST", "ADD", "CANCEL", "REPLY", "OTHER")
	for seed := range int64(3000) {
		r := rand.New(rand.NewSource(seed))
		owner := []string{"o@x", "a@x"}[r.Intn(2)]
		b := made(t, owner)
		var slow []Entry
		// What was put may be of several organizers for one UID.
		for range r.Intn(4) {
			e := entryOf(someEvent(r, "REQUEST"))
			if code := b.Put(e); code != api.OK {
				t.Fatalf("Put(%+v): %v", e, code)
			}
			slow = slowPut(slow, e)
		}
		for range 40 {
			m := someEvent(r, methods[r.Intn(len(methods))])
			if r.Intn(5) == 0 {
				if r.Intn(4) > 0 {
					m.Organizer = owner
				}
				want, e := slowOwn(owner, slow, m)
				code := b.Own(m)
				after := b.Entries()
				if code != e || !sameAll(after, want) {
					t.Fatalf("Own(%+v) to %+v: %v %+v, not %v %+v", m, slow, code, after, e, want)
				}
				follows(t, slow, after, owner, m, Result{Changed: code == api.OK}, code)
				if again := b.Own(m); again == api.OK || !sameAll(b.Entries(), after) {
					t.Fatalf("Own(%+v), again, to %+v: %v %+v", m, after, again, b.Entries())
				}
				slow = want
				counts["OWN "+e.Error()]++
				continue
			}
			from, _ := rules.Sender(m)
			if r.Intn(8) == 0 {
				from = []string{"", "o@x", "a@x", "q@x"}[r.Intn(4)]
			}
			want, result, e := slowApply(owner, slow, from, m)
			got, code := b.Apply(from, m)
			after := b.Entries()
			if code != e || !sameResult(got, result) || !sameAll(after, want) {
				t.Fatalf("Apply(%q, %+v) to %+v: %+v %v %+v, not %+v %v %+v", from, m, slow, got, code, after, result, e, want)
			}
			follows(t, slow, after, from, m, got, code)
			// Done again it changes nothing.
			if _, again := b.Apply(from, m); !sameAll(b.Entries(), after) || code == api.OK && got.Changed && again == api.OK {
				t.Fatalf("Apply(%q, %+v), again, to %+v: %v %+v", from, m, after, again, b.Entries())
			}
			slow = want
			counts[m.Method+" "+e.Error()]++
		}
		for _, e := range b.Entries() {
			if !Right(e) {
				t.Fatalf("an entry that may not be: %+v", e)
			}
		}
	}
	for _, s := range strings.Split("OWN 0,OWN 130,OWN 140,OWN 141,OWN 142,PUBLISH 0,PUBLISH 140,PUBLISH 142,REQUEST 0,REQUEST 140,REQUEST 141,REQUEST 142,ADD 0,ADD 140,ADD 141,ADD 142,ADD 143,CANCEL 0,CANCEL 140,CANCEL 142,CANCEL 143,DECLINECOUNTER 0,DECLINECOUNTER 140,DECLINECOUNTER 141,DECLINECOUNTER 143,REPLY 0,REPLY 140,REPLY 141,REPLY 142,REPLY 143,REFRESH 0,REFRESH 140,REFRESH 141,REFRESH 143,COUNTER 0,COUNTER 140,COUNTER 141,COUNTER 143,OTHER 130", ",") {
		method, number, _ := strings.Cut(s, " ")
		if counts[method+" posthorn "+number] == 0 {
			t.Errorf("no %s was told %s", method, number)
		}
	}
}

func TestRight(t *testing.T) { // P15.2
	for _, e := range []Entry{bare(), full(),
		changed(full(), func(e *Entry) { e.Last = []int64{0, last} }),
		changed(full(), func(e *Entry) { e.Start, e.End = -1, -1 }),
		changed(full(), func(e *Entry) { e.End = -1 }),
		changed(full(), func(e *Entry) { e.Attendees, e.Last = nil, nil }),
		changed(full(), func(e *Entry) { e.Attendees, e.Last = []api.Attendee{}, []int64{} }),
		changed(full(), func(e *Entry) { e.UID = strings.Repeat("u", 200) }),
		changed(full(), func(e *Entry) { e.Mark = rules.Mark{Seq: math.MaxInt32, Stamp: last} }),
		changed(full(), func(e *Entry) { e.Summary = strings.Repeat("é", 500) }),
	} {
		if !Right(e) {
			t.Errorf("Right(%+v): false", e)
		}
		b := made(t, "a@x")
		if code := b.Put(e); code != api.OK || !sameAll(b.Entries(), []Entry{e}) {
			t.Errorf("Put(%+v): %v %+v", e, code, b.Entries())
		}
	}
	for _, e := range []Entry{{}, {UID: "u", Recur: -1, Organizer: "o@x"},
		changed(bare(), func(e *Entry) { e.Organizer = "" }), changed(full(), func(e *Entry) { e.Organizer = "" }), changed(full(), func(e *Entry) { e.Organizer = "O@x" }),
		changed(full(), func(e *Entry) { e.Last = nil }), changed(full(), func(e *Entry) { e.Last = e.Last[:1] }), changed(full(), func(e *Entry) { e.Last = append(e.Last, -1) }), changed(bare(), func(e *Entry) { e.Last = []int64{-1} }),
		changed(full(), func(e *Entry) { e.Last[0] = -2 }), changed(full(), func(e *Entry) { e.Last[1] = last + 1 }), changed(full(), func(e *Entry) { e.Last[1] = math.MinInt64 }), changed(full(), func(e *Entry) { e.Last[1] = math.MaxInt64 }),
		changed(full(), func(e *Entry) { e.UID = "" }), changed(full(), func(e *Entry) { e.UID = strings.Repeat("u", 201) }), changed(full(), func(e *Entry) { e.UID = "a b" }),
		changed(full(), func(e *Entry) { e.Recur = -2 }), changed(full(), func(e *Entry) { e.Recur = last + 1 }),
		changed(full(), func(e *Entry) { e.Mark.Seq = -1 }), changed(full(), func(e *Entry) { e.Mark.Seq = math.MaxInt32 + 1 }), changed(full(), func(e *Entry) { e.Mark.Stamp = -1 }), changed(full(), func(e *Entry) { e.Mark.Stamp = last + 1 }),
		changed(full(), func(e *Entry) { e.Start = -1 }), changed(full(), func(e *Entry) { e.End = 0 }), changed(full(), func(e *Entry) { e.Start = 3600 }),
		changed(full(), func(e *Entry) { e.Attendees[1].Addr = "a@x" }), changed(full(), func(e *Entry) { e.Attendees[1].Part = "" }), changed(full(), func(e *Entry) { e.Attendees[1].Addr = "" }),
		changed(full(), func(e *Entry) { e.Summary = "\xff" }), changed(full(), func(e *Entry) { e.Summary = "\r" }), changed(full(), func(e *Entry) { e.Summary = strings.Repeat("s", 1001) }),
		changed(full(), func(e *Entry) {
			e.Attendees, e.Last = nil, nil
			for i := range 33 {
				e.Attendees, e.Last = append(e.Attendees, people("p"+strconv.Itoa(i))...), append(e.Last, -1)
			}
		}),
	} {
		if Right(e) {
			t.Errorf("Right(%+v): true", e)
		}
		b := made(t, "a@x")
		if code := b.Put(e); code != api.ErrEvent || len(b.Entries()) != 0 {
			t.Errorf("Put(%+v): %v", e, code)
		}
		if text, code := Write(e); len(text) != 0 || code != api.ErrEvent {
			t.Errorf("Write(%+v): %q %v", e, text, code)
		}
	}
}

func TestPut(t *testing.T) { // P15.2
	b := made(t, "a@x")
	b.Put(full())
	// It needs be neither newer, nor of the same organizer, nor one to whom the owner is asked.
	next := changed(full(), func(e *Entry) {
		e.Mark, e.Organizer, e.Cancelled, e.Attendees, e.Last = rules.Mark{}, "p@x", false, people("c"), []int64{4}
	})
	if code := b.Put(next); code != api.OK || !sameAll(b.Entries(), []Entry{next}) {
		t.Errorf("Put: %v %+v", code, b.Entries())
	}
	b.Put(changed(next, func(e *Entry) { e.Recur = 61 }))
	b.Put(changed(next, func(e *Entry) { e.UID = "u-2" }))
	if len(b.Entries()) != 3 {
		t.Errorf("Put of other keys: %+v", b.Entries())
	}
}

func TestSay(t *testing.T) { // P15.2
	for _, method := range append(rules.Methods(), "", "any thing") {
		want := api.Message{Method: method, UID: "u-1@x", Seq: 7, Stamp: 1709164800, Recur: 60, Organizer: "o@x.org", Attendees: people("a=a b"), Start: 0, End: 3600, Summary: "a;b,c\\d\ne\tf é"}
		if m := Say(full(), method); !sameMessage(m, want) {
			t.Errorf("Say: %+v", m)
		}
	}
	if m := Say(Entry{}, ""); !sameMessage(m, api.Message{}) {
		t.Errorf("Say of nothing: %+v", m)
	}
	odd := Entry{UID: "\xff", Recur: -9, Mark: rules.Mark{Seq: -1, Stamp: -5}, Organizer: "?", Attendees: []api.Attendee{{Addr: "?", Part: "!"}}, Start: math.MinInt64, End: math.MaxInt64, Summary: "\x00"}
	if m := Say(odd, "x"); !sameMessage(m, api.Message{Method: "x", UID: "\xff", Recur: -9, Seq: -1, Stamp: -5, Organizer: "?", Attendees: []api.Attendee{{Addr: "?", Part: "!"}}, Start: math.MinInt64, End: math.MaxInt64, Summary: "\x00"}) {
		t.Errorf("Say of what may not be: %+v", m)
	}
	// What is said and done again is the entry, if it was not answered.
	e := changed(full(), func(e *Entry) { e.Last, e.Cancelled = []int64{-1, -1}, false })
	if got := entryOf(Say(e, "REQUEST")); !same(got, e) {
		t.Errorf("said and made: %+v", got)
	}
}

// slowTime writes a time by the library.
func slowTime(t int64) string { return time.Unix(t, 0).UTC().Format("20060102T150405Z") }

// slowFold folds a line, and ends it.
func slowFold(s string) string {
	out := ""
	for len(s) > 75 {
		end := 75
		for s[end]&0xc0 == 0x80 {
			end--
		}
		out += s[:end] + "\r\n"
		s = " " + s[end:]
	}
	return out + s + "\r\n"
}

// slowWrite is what Write must answer of an entry that may be.
func slowWrite(e Entry) string {
	lines := []string{"BEGIN:VENTRY", "UID:" + e.UID, "SEQUENCE:" + strconv.Itoa(e.Mark.Seq), "DTSTAMP:" + slowTime(e.Mark.Stamp)}
	if e.Recur != -1 {
		lines = append(lines, "RECURRENCE-ID:"+slowTime(e.Recur))
	}
	lines = append(lines, "ORGANIZER:mailto:"+e.Organizer)
	for i, a := range e.Attendees {
		said := ""
		if e.Last[i] != -1 {
			said = ";X-LAST=" + slowTime(e.Last[i])
		}
		lines = append(lines, "ATTENDEE;PARTSTAT="+a.Part+said+":mailto:"+a.Addr)
	}
	if e.Start != -1 {
		lines = append(lines, "DTSTART:"+slowTime(e.Start))
	}
	if e.End != -1 {
		lines = append(lines, "DTEND:"+slowTime(e.End))
	}
	if e.Summary != "" {
		lines = append(lines, "SUMMARY:"+strings.NewReplacer(`\`, `\\`, `;`, `\;`, `,`, `\,`, "\n", `\n`).Replace(e.Summary))
	}
	if e.Cancelled {
		lines = append(lines, "STATUS:CANCELLED")
	}
	lines = append(lines, "END:VENTRY")
	out := ""
	for _, s := range lines {
		out += slowFold(s)
	}
	return out
}

// fullText is what the full entry is written as.
const fullText = "BEGIN:VENTRY\r\nUID:u-1@x\r\nSEQUENCE:7\r\nDTSTAMP:20240229T000000Z\r\nRECURRENCE-ID:19700101T000100Z\r\nORGANIZER:mailto:o@x.org\r\nATTENDEE;PARTSTAT=ACCEPTED;X-LAST=20240229T000001Z:mailto:a@x\r\nATTENDEE;PARTSTAT=NEEDS-ACTION:mailto:b@x\r\nDTSTART:19700101T000000Z\r\nDTEND:19700101T010000Z\r\nSUMMARY:a\\;b\\,c\\\\d\\ne\tf é\r\nSTATUS:CANCELLED\r\nEND:VENTRY\r\n"

// bareText is what the bare one is.
const bareText = "BEGIN:VENTRY\r\nUID:u\r\nSEQUENCE:0\r\nDTSTAMP:19700101T000000Z\r\nORGANIZER:mailto:o@x\r\nEND:VENTRY\r\n"

// checkEntry writes an entry that may be, and reads it.
func checkEntry(t *testing.T, e Entry) {
	t.Helper()
	text, code := Write(e)
	if code != api.OK || string(text) != slowWrite(e) {
		t.Fatalf("Write(%+v): %q %v, not %q", e, text, code, slowWrite(e))
	}
	got, code := Read(text)
	if code != api.OK || !same(got, e) {
		t.Fatalf("Read(%q): %+v %v, not %+v", text, got, code, e)
	}
}

func TestWrite(t *testing.T) { // P15.3, P15.7
	for _, c := range []struct {
		e    Entry
		want string
	}{{full(), fullText}, {bare(), bareText}} {
		if text, code := Write(c.e); string(text) != c.want || code != api.OK {
			t.Errorf("Write(%+v): %q %v", c.e, text, code)
		}
		checkEntry(t, c.e)
	}
}

// someEntry is an entry that may be.
func someEntry(r *rand.Rand) Entry {
	time := func() int64 {
		return []int64{0, 1, 60, 86399, 1709164800, last - 1, r.Int63n(last), r.Int63n(last)}[r.Intn(8)]
	}
	text := func(from string, n int) string {
		points, out := []rune(from), ""
		for range n {
			out += string(points[r.Intn(len(points))])
		}
		return out
	}
	e := Entry{UID: text("abcXYZ019!#~-@:\"=", 1+r.Intn(200)), Recur: -1, Mark: rules.Mark{Seq: []int{0, 1, 9, 10, math.MaxInt32}[r.Intn(5)], Stamp: time()}, Organizer: text("abc", 1+r.Intn(60)) + "@" + text("xyz", 1+r.Intn(60)), Start: -1, End: -1, Cancelled: r.Intn(2) == 0}
	if r.Intn(2) == 0 {
		e.Recur = time()
	}
	if r.Intn(3) > 0 {
		e.Start = time()
		if r.Intn(2) == 0 {
			e.End = e.Start + 1 + r.Int63n(last-e.Start)
		}
	}
	if r.Intn(2) == 0 {
		e.Summary = text("ab \t\n\\;,:\"é€😀nN", r.Intn(240))
	}
	for i := range []int{0, 1, 2, 5, 32}[r.Intn(5)] {
		e.Attendees = append(e.Attendees, api.Attendee{Addr: text("ab", r.Intn(50)) + strconv.Itoa(i) + "@x", Part: []string{"NEEDS-ACTION", "ACCEPTED", "DECLINED", "TENTATIVE"}[r.Intn(4)]})
		e.Last = append(e.Last, []int64{-1, time()}[r.Intn(2)])
	}
	return e
}

func TestThereAndBack(t *testing.T) { // P15.3, P15.7, P2
	for seed := range int64(3000) {
		e := someEntry(rand.New(rand.NewSource(seed)))
		if !Right(e) {
			t.Fatalf("Right(%+v): false", e)
		}
		checkEntry(t, e)
	}
	// All that it may have at its longest.
	long := changed(full(), func(e *Entry) {
		e.UID, e.Organizer, e.Summary = strings.Repeat("~", 200), strings.Repeat("o", 64)+"@"+strings.Repeat("x.", 126)+"x", strings.Repeat("\\", 1000)
		e.Attendees, e.Last = nil, nil
		for i := range 32 {
			e.Attendees = append(e.Attendees, api.Attendee{Addr: strings.Repeat("a", 60) + strconv.Itoa(i) + "@" + strings.Repeat("x.", 126) + "x", Part: "NEEDS-ACTION"})
			e.Last = append(e.Last, last)
		}
	})
	checkEntry(t, long)
	for c := rune(0); c < 300; c++ {
		if e := changed(full(), func(e *Entry) { e.Summary = "a" + string(c) + "b" }); Right(e) {
			checkEntry(t, e)
		} else if c != 127 && (c > 31 || c == '\t' || c == '\n') {
			t.Errorf("Right of a Summary with %d: false", c)
		}
	}
}

// checkText reads a text: it is refused, or is what its entry is written as.
func checkText(t *testing.T, text string) api.Errno {
	t.Helper()
	e, code := Read([]byte(text))
	if code == api.OK {
		if !Right(e) || slowWrite(e) != text {
			t.Fatalf("Read(%q): %+v, which is %q", text, e, slowWrite(e))
		}
		return code
	}
	if code != api.ErrEvent || !same(e, Entry{}) {
		t.Fatalf("Read(%q): %+v %v", text, e, code)
	}
	return code
}

func TestReadWrong(t *testing.T) { // P15.3
	replaced := func(old, new string) string {
		if !strings.Contains(fullText, old) {
			t.Fatalf("%q is not there", old)
		}
		return strings.Replace(fullText, old, new, 1)
	}
	for _, text := range []string{"", "\r\n", "BEGIN:VENTRY\r\nEND:VENTRY\r\n", "x", "\xff", strings.Repeat("a", api.MaxText+1),
		fullText + "\r\n", fullText + fullText, fullText[:len(fullText)-2], fullText[1:], " " + fullText, strings.ReplaceAll(fullText, "\r\n", "\n"),
		strings.ReplaceAll(fullText, "VENTRY", "VEVENT"), strings.ReplaceAll(fullText, "VENTRY", "ventry"), strings.ToLower(fullText),
		replaced("UID:", "uid:"), replaced("UID:u-1@x\r\n", ""), replaced("UID:u-1@x\r\n", "UID:u\r\nUID:u\r\n"), replaced("UID:u-1@x", "UID:"), replaced("UID:u-1@x\r\nSEQUENCE:7\r\n", "SEQUENCE:7\r\nUID:u-1@x\r\n"),
		replaced("UID:u-1@x", "UID:u-1\r\n @x"), replaced("UID:", "UID;A=b:"),
		replaced("SEQUENCE:7\r\n", ""), replaced("SEQUENCE:7", "SEQUENCE:07"), replaced("SEQUENCE:7", "SEQUENCE:+7"), replaced("SEQUENCE:7", "SEQUENCE:2147483648"), replaced("SEQUENCE:7", "SEQUENCE:-1"),
		replaced("DTSTAMP:20240229T000000Z\r\n", ""), replaced("20240229T000000Z", "20230229T000000Z"), replaced("20240229T000000Z", "20240229T000000z"),
		replaced("ORGANIZER:mailto:o@x.org\r\n", ""), replaced("ORGANIZER:mailto:", "ORGANIZER:MAILTO:"), replaced("o@x.org", "O@x.org"), replaced("ORGANIZER:mailto:o@x.org", "ORGANIZER:o@x.org"),
		replaced(";PARTSTAT=ACCEPTED", ""), replaced("=ACCEPTED", "=accepted"), replaced("=ACCEPTED", "=\"ACCEPTED\""), replaced("=ACCEPTED", "=DELEGATED"), replaced(";PARTSTAT=NEEDS-ACTION", ""),
		replaced(";PARTSTAT=ACCEPTED;X-LAST=20240229T000001Z", ";X-LAST=20240229T000001Z;PARTSTAT=ACCEPTED"), replaced(";X-LAST=20240229T000001Z", ";X-LAST=20240229T000001Z;X-LAST=20240229T000001Z"), replaced(";X-LAST=20240229T000001Z", ";X-LAST="), replaced(";X-LAST=20240229T000001Z", ";X-LAST=-1"), replaced(";X-LAST=20240229T000001Z", ";X-LAST=20240229T000060Z"), replaced(";X-LAST=20240229T000001Z", ";x-last=20240229T000001Z"), replaced(";X-LAST", ";CN=a;X-LAST"),
		replaced("mailto:b@x", "mailto:a@x"), replaced("mailto:b@x\r\n", "mailto:b@x\r\nCOMMENT:c\r\n"), replaced("mailto:b@x\r\n", "mailto:b@x\r\nX-A:c\r\n"),
		replaced("DTSTART:19700101T000000Z\r\n", ""), replaced("DTEND:19700101T010000Z", "DURATION:PT1H"), replaced("DTEND:19700101T010000Z", "DTEND:19700101T000000Z"),
		replaced("a\\;b", "a;b"), replaced("d\\ne", "d\\Ne"), replaced("SUMMARY:", "SUMMARY:a\r\nSUMMARY:"), replaced("é", "\xc3"), replaced("é", "\r"),
		replaced("STATUS:CANCELLED", "STATUS:cancelled"), replaced("STATUS:CANCELLED", "STATUS:CONFIRMED"), replaced("STATUS:CANCELLED", "STATUS:"), replaced("STATUS:CANCELLED", "STATUS;A=b:CANCELLED"), replaced("STATUS:CANCELLED", "STATUS:CANCELLED\r\nSTATUS:CANCELLED"), replaced("SUMMARY:a\\;b\\,c\\\\d\\ne\tf é\r\nSTATUS:CANCELLED\r\n", "STATUS:CANCELLED\r\nSUMMARY:a\\;b\\,c\\\\d\\ne\tf é\r\n"),
		replaced("END:", "BEGIN:A\r\nEND:A\r\nEND:"), replaced("END:VENTRY", "END:ventry"), replaced("END:VENTRY", "END:VEVENT"), "BEGIN:A\r\n" + fullText + "END:A\r\n",
		strings.Replace(bareText, "END:", "SUMMARY:\r\nEND:", 1), strings.Replace(bareText, "END:", "COMMENT:\r\nEND:", 1), strings.Replace(bareText, "SEQUENCE:0\r\n", "", 1),
	} {
		if code := checkText(t, text); code != api.ErrEvent {
			t.Errorf("Read(%.3000q): %v", text, code)
		}
	}
	for _, text := range []string{fullText, bareText, replaced("STATUS:CANCELLED\r\n", ""), replaced(";X-LAST=20240229T000001Z", ""), replaced("RECURRENCE-ID:19700101T000100Z\r\n", ""), replaced("DTEND:19700101T010000Z\r\n", ""), replaced("DTSTART:19700101T000000Z\r\nDTEND:19700101T010000Z\r\n", ""), replaced("SUMMARY:a\\;b\\,c\\\\d\\ne\tf é\r\n", "")} {
		if code := checkText(t, text); code != api.OK {
			t.Errorf("Read(%q): %v", text, code)
		}
	}
}

func TestReadChanged(t *testing.T) { // P15.3, P15.7
	r := rand.New(rand.NewSource(1))
	counts := map[api.Errno]int{}
	for _, text := range []string{fullText, bareText} {
		for i := range len(text) {
			counts[checkText(t, text[:i])]++
			counts[checkText(t, text[:i]+text[i+1:])]++
			for _, c := range "\x00\t\n\r \"+,-.059:;=@ANaz\\~\x7f\xff" {
				counts[checkText(t, text[:i]+string(c)+text[i:])]++
				counts[checkText(t, text[:i]+string(c)+text[i+1:])]++
			}
		}
	}
	lines := strings.SplitAfter(fullText, "\r\n")
	for range 20000 {
		some := slices.Clone(lines[:len(lines)-1])
		for range 1 + r.Intn(2) {
			i, j := 1+r.Intn(len(some)-1), 1+r.Intn(len(some)-1)
			switch r.Intn(3) {
			case 0:
				some[i], some[j] = some[j], some[i]
			case 1:
				some = slices.Insert(some, i, some[j])
			default:
				some = slices.Delete(some, i, i+1)
			}
		}
		counts[checkText(t, strings.Join(some, ""))]++
	}
	if counts[api.OK] < 100 || counts[api.ErrEvent] < 1000 {
		t.Errorf("what was told: %v", counts)
	}
}

func TestEntryAsItsMessage(t *testing.T) { // P15.3
	for seed := range int64(200) {
		e := someEntry(rand.New(rand.NewSource(seed)))
		e.Cancelled = false
		for i := range e.Last {
			e.Last[i] = -1
		}
		c, _ := event.Write(Say(e, "REQUEST"))
		text, _ := Write(e)
		for _, l := range c.Comps[0].Lines {
			if !bytes.Contains(bytes.ReplaceAll(text, []byte("\r\n "), nil), []byte(":"+l.Value+"\r\n")) {
				t.Fatalf("%q lacks %+v", text, l)
			}
		}
	}
}

func TestNothingIsChangedOrKept(t *testing.T) { // Rules 4 and 5
	// What is handed in has room behind it, and something there.
	room := append(people("a b=t"), people("x y")...)
	m := message("REQUEST", 1, 5, "")
	m.Attendees = room[:2]
	whole := slices.Clone(room)
	b, mine := made(t, "a@x"), made(t, "o@x")
	apply(t, b, "o@x", m, api.OK)
	own(t, mine, m, api.OK)
	reply := message("REPLY", 1, 9, "a=a")
	apply(t, mine, "a@x", reply, api.OK)
	e := full()
	times := []int64{e.Last[0], e.Last[1], 7}
	e.Attendees, e.Last = room[:2], times[:2]
	both := made(t, "q@x")
	if both.Put(e) != api.OK || both.Put(changed(e, func(e *Entry) { e.Recur = 9 })) != api.OK {
		t.Fatal("Put")
	}
	if _, code := Write(e); code != api.OK {
		t.Fatal("Write")
	}
	said := Say(e, "REQUEST")
	if !slices.Equal(room, whole) || !slices.Equal(times, []int64{1709164801, -1, 7}) || !slices.Equal(reply.Attendees, people("a=a")) {
		t.Errorf("handed in: %v %v", room, times)
	}
	before := [][]Entry{b.Entries(), mine.Entries(), both.Entries()}
	for _, l := range before {
		for i := range l {
			l[i] = copied(l[i])
		}
	}
	clear(room)
	clear(times)
	clear(reply.Attendees)
	for i, book := range []*Book{b, mine, both} {
		if !sameAll(book.Entries(), before[i]) {
			t.Errorf("kept: %+v", book.Entries())
		}
	}
	if !slices.Equal(said.Attendees, people("a b=t")) {
		t.Errorf("said: %+v", said)
	}
	// What is handed out is nobody else's.
	for i, book := range []*Book{b, mine, both} {
		for range 2 {
			for _, e := range book.Entries() {
				clear(e.Attendees[:cap(e.Attendees)])
				clear(e.Last[:cap(e.Last)])
			}
		}
		if !sameAll(book.Entries(), before[i]) {
			t.Errorf("handed out: %+v", book.Entries())
		}
	}
	for _, method := range []string{"REFRESH", "COUNTER"} {
		first := apply(t, mine, "b@x", message(method, 0, 0, "b"), api.OK)
		clear(first.Out.Attendees[:cap(first.Out.Attendees)])
		second := apply(t, mine, "b@x", message(method, 0, 0, "b"), api.OK)
		if second.Out.Attendees[0].Addr == "" || !sameAll(mine.Entries(), before[1]) {
			t.Errorf("a %s: %+v", method, second)
		}
	}
	text, _ := Write(full())
	got, _ := Read(text)
	clear(text[:cap(text)])
	if !same(got, full()) {
		t.Errorf("Read kept: %+v", got)
	}
}

func TestBooksAreApart(t *testing.T) { // Rule 7
	a, b := made(t, "a@x"), made(t, "a@x")
	apply(t, a, "o@x", message("REQUEST", 0, 0, "a"), api.OK)
	if len(b.Entries()) != 0 {
		t.Errorf("another book: %+v", b.Entries())
	}
	apply(t, b, "o@x", message("CANCEL", 1, 0, "a"), api.ErrUnknown)
}

func TestAllEnds(t *testing.T) { // P1
	numbers := []int64{math.MinInt64, -2, -1, 0, 1, last, last + 1, math.MaxInt64}
	r := rand.New(rand.NewSource(1))
	number := func() int64 { return numbers[r.Intn(len(numbers))] }
	text := func() string { return []string{"", "u", "a@x", "o@x", "\xff", "REPLY", "ACCEPTED"}[r.Intn(7)] }
	b := made(t, "a@x")
	for range 50000 {
		e := Entry{UID: text(), Recur: number(), Mark: rules.Mark{Seq: int(number()), Stamp: number()}, Organizer: text(), Start: number(), End: number(), Summary: text(), Cancelled: r.Intn(2) == 0}
		m := api.Message{Method: []string{"", "REPLY", "REQUEST", "ADD", "CANCEL", "COUNTER"}[r.Intn(6)], UID: text(), Seq: int(number()), Stamp: number(), Recur: number(), Organizer: text(), Start: number(), End: number(), Summary: text(), Comment: text()}
		for range r.Intn(3) {
			e.Attendees = append(e.Attendees, api.Attendee{Addr: text(), Part: text()})
			m.Attendees = append(m.Attendees, api.Attendee{Addr: text(), Part: text()})
		}
		for range r.Intn(3) {
			e.Last = append(e.Last, number())
		}
		right := Right(e)
		if _, code := Write(e); (code == api.OK) != right {
			t.Fatalf("Write(%+v): %v", e, code)
		}
		if code := b.Put(e); (code == api.OK) != right {
			t.Fatalf("Put(%+v): %v", e, code)
		}
		Say(e, text())
		b.Own(m)
		b.Apply(text(), m)
		b.Entries()
	}
	Right(Entry{Attendees: make([]api.Attendee, 1<<16), Last: make([]int64, 1<<16)})
	noise := make([]byte, 300)
	for range 5000 {
		r.Read(noise)
		checkText(t, string(noise[:r.Intn(len(noise))]))
	}
}
