package tests

import (
	"math"
	"testing"

	"loop.example/g00750/impl"
)

func ticketShown(t impl.Ticket) string { return said("Ticket", t.Tag, t.Gen, t.Slot) }

// checkTicket holds all three calls against a Ticket that is right and its number.
func checkTicket(t *testing.T, ticket impl.Ticket, number int64) {
	t.Helper()
	if !impl.TicketOk(ticket) {
		t.Fatalf("%s: not right", ticketShown(ticket))
	}
	if got := impl.NumberOf(ticket); got != number {
		t.Fatalf("%s: got %d, want %d", ticketShown(ticket), got, number)
	}
	if got, is := impl.TicketOf(number); got != ticket || !is {
		t.Fatalf("TicketOf %d: got %s, %v; want %s, true", number, ticketShown(got), is, ticketShown(ticket))
	}
}

func checkNoTicket(t *testing.T, ticket impl.Ticket) {
	t.Helper()
	if impl.TicketOk(ticket) {
		t.Errorf("%s: right", ticketShown(ticket))
	}
	if got := impl.NumberOf(ticket); got != -1 {
		t.Errorf("%s: got %d, want -1", ticketShown(ticket), got)
	}
}

func checkNoNumber(t *testing.T, number int64) {
	t.Helper()
	if got, is := impl.TicketOf(number); is || got != (impl.Ticket{}) {
		t.Errorf("TicketOf %d: got %s, %v; want the zero Ticket, false", number, ticketShown(got), is)
	}
}

type ticketAndNumber struct {
	ticket impl.Ticket
	number int64
}

func TestTicketsThereAndBack(t *testing.T) {
	for _, c := range []ticketAndNumber{
		{impl.Ticket{Tag: 2, Gen: 3, Slot: 5}, 309},
		{impl.Ticket{Tag: 3, Gen: 5, Slot: 2}, 466},
		{impl.Ticket{Tag: 5, Gen: 2, Slot: 3}, 675},
		{impl.Ticket{Tag: 77, Gen: 6, Slot: 9}, 9961},
		{impl.Ticket{Tag: 12345, Gen: 6, Slot: 7}, 1580263},
		{impl.Ticket{Tag: 65536, Gen: 1, Slot: 8}, 8388632},
		{impl.Ticket{Tag: 65537, Gen: 0, Slot: 0}, 8388736},
	} {
		checkTicket(t, c.ticket, c.number)
	}
}

func TestTicketsAtTheEdges(t *testing.T) {
	for _, c := range []ticketAndNumber{
		{impl.Ticket{Tag: 1}, 128},
		{impl.Ticket{Tag: 1, Slot: 1}, 129},
		{impl.Ticket{Tag: 1, Slot: 15}, 143},
		{impl.Ticket{Tag: 1, Gen: 1}, 144},
		{impl.Ticket{Tag: 1, Gen: 7}, 240},
		{impl.Ticket{Tag: 1, Gen: 7, Slot: 15}, 255},
		{impl.Ticket{Tag: 2}, 256},
		{impl.Ticket{Tag: 99999, Gen: 7, Slot: 15}, 12799999},
		{impl.Ticket{Tag: 100000}, 12800000},
		{impl.Ticket{Tag: 100000, Slot: 15}, 12800015},
		{impl.Ticket{Tag: 100000, Gen: 7}, 12800112},
		{impl.Ticket{Tag: 100000, Gen: 7, Slot: 14}, 12800126},
		{impl.Ticket{Tag: 100000, Gen: 7, Slot: 15}, 12800127},
	} {
		checkTicket(t, c.ticket, c.number)
	}
	for _, ticket := range []impl.Ticket{
		{}, {Tag: 0, Gen: 7, Slot: 15}, {Tag: 100001}, {Tag: 100001, Gen: 7, Slot: 15},
		{Tag: 1, Gen: -1}, {Tag: 1, Gen: 8}, {Tag: 100000, Gen: -1}, {Tag: 100000, Gen: 8},
		{Tag: 1, Slot: -1}, {Tag: 1, Slot: 16}, {Tag: 100000, Slot: -1}, {Tag: 100000, Slot: 16},
		{Tag: 100000, Gen: 7, Slot: 16}, {Tag: 100000, Gen: 8, Slot: 15},
	} {
		checkNoTicket(t, ticket)
	}
	for _, number := range []int64{127, 12800128} {
		checkNoNumber(t, number)
	}
}

// TestEveryTicket goes through all there are, as their numbers count up from the least to the greatest without a gap.
func TestEveryTicket(t *testing.T) {
	number := int64(128)
	for tag := int64(1); tag <= impl.MaxTag; tag++ {
		for gen := int64(0); gen <= impl.MaxGen; gen++ {
			for slot := int64(0); slot < impl.MaxSlots; slot++ {
				checkTicket(t, impl.Ticket{Tag: tag, Gen: gen, Slot: slot}, number)
				number++
			}
		}
	}
	if number != 12800128 {
		t.Errorf("one more than the greatest number is %d, want 12800128", number)
	}
}

// strange has numbers that no field may be; some would be right if they were cut to fewer bits, or shifted till they go round.
func strange() []int64 {
	most, least := int64(math.MaxInt64), int64(math.MinInt64)
	return []int64{
		least, least + 1, least + 7, least + 128, -1 << 57, -1<<57 + 1, -1 << 60, -1 << 32, -1<<32 + 1,
		-12800127, -100001, -100000, -65536, -256, -255, -128, -127, -16, -15, -8, -7, -2, -1,
		100001, 100002, 131072, 1 << 20, 1<<24 + 1, 1 << 32, 1<<32 + 1, 1<<56 + 1, 1 << 57, 1<<57 + 1, 1<<57 + 100000,
		1<<59 + 2, 1<<60 + 3, 1<<61 + 1, 1<<62 + 5, most - 127, most - 7, most - 1, most,
	}
}

func TestWrongTickets(t *testing.T) {
	for _, n := range strange() {
		for _, right := range []impl.Ticket{{Tag: 1}, {Tag: 2, Gen: 3, Slot: 5}, {Tag: 100000, Gen: 7, Slot: 15}} {
			checkNoTicket(t, impl.Ticket{Tag: n, Gen: right.Gen, Slot: right.Slot})
			checkNoTicket(t, impl.Ticket{Tag: right.Tag, Gen: n, Slot: right.Slot})
			checkNoTicket(t, impl.Ticket{Tag: right.Tag, Gen: right.Gen, Slot: n})
			checkNoTicket(t, impl.Ticket{Tag: n, Gen: n, Slot: n})
		}
	}
}

// TestWrongFieldsThatMakeUpForEachOther has three wrong fields at most whose sum is the number of a right Ticket.
func TestWrongFieldsThatMakeUpForEachOther(t *testing.T) {
	for _, ticket := range []impl.Ticket{
		{Tag: 0, Gen: 8}, {Tag: 0, Gen: 11, Slot: 5}, {Tag: 0, Slot: 128}, {Tag: 0, Slot: 309},
		{Tag: 2, Gen: -1}, {Tag: 2, Gen: 2, Slot: 21}, {Tag: 2, Gen: 4, Slot: -11}, {Tag: 3, Gen: -5, Slot: 5},
		{Tag: 100001, Gen: -1, Slot: 15}, {Tag: 100001, Gen: -8}, {Tag: -1, Gen: 19, Slot: 5},
		{Tag: math.MaxInt64, Gen: 16, Slot: 128}, {Tag: 1 << 57, Gen: 8}, {Tag: 1 << 57, Slot: 309},
		{Tag: math.MinInt64, Gen: 1 << 60, Slot: 309}, {Tag: 1, Gen: 1 << 60}, {Tag: 1, Gen: math.MinInt64},
	} {
		checkNoTicket(t, ticket)
	}
}

// TestFieldsAroundTheRightOnes holds TicketOk against the chapter's words, on each side of each limit.
func TestFieldsAroundTheRightOnes(t *testing.T) {
	for _, tag := range []int64{-2, -1, 0, 1, 2, 50000, 99999, 100000, 100001, 100002} {
		for gen := int64(-17); gen <= 17; gen++ {
			for slot := int64(-33); slot <= 33; slot++ {
				ticket := impl.Ticket{Tag: tag, Gen: gen, Slot: slot}
				if tag < 1 || tag > 100000 || gen < 0 || gen > 7 || slot < 0 || slot > 15 {
					checkNoTicket(t, ticket)
				} else {
					checkTicket(t, ticket, tag*128+gen*16+slot)
				}
			}
		}
	}
}

func TestNumbersOfNoTicket(t *testing.T) {
	for number := int64(-300); number < 128; number++ {
		checkNoNumber(t, number)
	}
	for number := int64(12800128); number < 12800700; number++ {
		checkNoNumber(t, number)
	}
	for _, number := range strange() {
		if number < 128 || number > 12800127 {
			checkNoNumber(t, number)
		}
	}
	// Each of them would be a right Ticket's number if the bits ahead were left out.
	for _, right := range []int64{128, 309, 12800127} {
		for bit := 24; bit < 63; bit++ {
			checkNoNumber(t, right|1<<bit)
			checkNoNumber(t, right-1<<bit)
		}
		checkNoNumber(t, -right)
		checkNoNumber(t, ^right)
		checkNoNumber(t, right|math.MinInt64)
	}
}
