package msg

import (
	"consign/api"
	"consign/octet"
)

// teller is asked for each field, one behind the other: it is handed what the field is so far, and in how many bytes it lies, and tells what it is.
type teller interface {
	tell(n uint64, width int) uint64
}

// writer lays each field, and leaves it as it is.
type writer struct{ body string }

func (w *writer) tell(n uint64, width int) uint64 {
	// no error comes of it: the fields of a message that may be have room in their bytes
	w.body, _ = octet.Put(w.body, n, width)
	return n
}

// reader tells what it reads, whatever the field was.
type reader struct{ *octet.Reader }

func (r reader) tell(_ uint64, width int) uint64 { return r.Num(width) }

// walk goes through the fields of a message in the order in which their bytes lie.
func walk(t teller, m *api.Msg) {
	field(t, &m.Round, 1)
	switch m.Kind {
	case api.MsgAnnounce:
		field(t, &m.Req, 1)
		field(t, &m.Reserve, 4)
		walkRequest(t, &m.Request)
	case api.MsgCommit:
		field(t, &m.Carrier, 1)
		walkDigest(t, &m.Digest)
	case api.MsgCall:
		m.Marks = walkMarks(t, m.Marks)
	case api.MsgOpen:
		field(t, &m.Carrier, 1)
		field(t, &m.Bid, 8)
		field(t, &m.Nonce, 8)
	case api.MsgResult:
		walkOutcome(t, &m.Outcome)
	}
}

func walkRequest(t teller, r *api.Request) {
	for _, p := range []*api.Place{&r.From, &r.To} {
		field(t, &p.X, 2)
		field(t, &p.Y, 2)
	}
	for _, w := range []*api.Window{&r.Pick, &r.Drop} {
		field(t, &w.Early, 4)
		field(t, &w.Late, 4)
	}
	field(t, &r.Load, 2)
	field(t, &r.Serve, 2)
}

func walkDigest(t teller, d *api.Digest) {
	for at := range d {
		field(t, &d[at], 1)
	}
}

// walkMarks goes through a list of its own, as the one that was handed in is somebody else's.
func walkMarks(t teller, l []api.Mark) []api.Mark {
	count := len(l)
	field(t, &count, 1)
	if count == 0 {
		return nil
	}
	marks := make([]api.Mark, count)
	copy(marks, l)
	for at := range marks {
		field(t, &marks[at].Carrier, 1)
		walkDigest(t, &marks[at].Digest)
	}
	return marks
}

func walkOutcome(t teller, o *api.Outcome) {
	// the winner -1 has no bytes of its own
	place := o.Winner + 1
	field(t, &o.State, 1)
	field(t, &place, 1)
	field(t, &o.Price, 8)
	o.Winner = place - 1
}

func field[N byte | int | uint64](t teller, n *N, width int) { *n = N(t.tell(uint64(*n), width)) }
