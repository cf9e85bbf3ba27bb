package elect

import "dockyard/api"

// Tally counts the answers of voters.
type Tally struct {
	voters        int   // elements of Voters, also those whose answers can't be recorded
	open, yes, no seats // of the voters that have not answered, and of those that have
}

// New has none, of a configuration's voters.
func New(c api.Config) *Tally {
	t := &Tally{voters: len(c.Voters)}
	for _, node := range c.Voters {
		if isNode(node) {
			t.open[node]++
		}
	}
	return t
}

// Count counts the answer of a voter.
func (t *Tally) Count(node int, good bool) {
	left := t.open.without(node)
	if left == t.open {
		// It is no voter, or has answered already.
		return
	}
	answered := &t.no
	if good {
		answered = &t.yes
	}
	answered[node] = t.open[node]
	t.open = left
}

// Won tells whether more than half of the voters have answered yes.
func (t *Tally) Won() bool { return 2*t.yes.sum() > t.voters }

// Lost tells whether so many voters have answered no that the others are not more than half.
func (t *Tally) Lost() bool { return 2*t.no.sum() >= t.voters }

// seats tells of each node how many elements of Voters it is: in a valid configuration one or none.
type seats [api.MaxNodes]int

// without answers the seats but those of a node, which need not have one.
func (s seats) without(node int) seats {
	if isNode(node) {
		s[node] = 0
	}
	return s
}

func (s seats) sum() int {
	sum := 0
	for _, n := range s {
		sum += n
	}
	return sum
}

func isNode(node int) bool { return node >= 0 && node < api.MaxNodes }
