package regauto

// span is the places of a group in a list: those of its marked members are from begin to marked, those of the others from marked to end.
type span struct{ begin, marked, end int }

// partition divides numbers into groups, whose members stand one behind the other in a list.
type partition struct {
	list    []int  // the numbers, group by group
	place   []int  // of a number: where it stands
	group   []int  // of a number: the number of its group
	groups  []span // of a group: where its members stand
	touched []int  // the groups with marked members
}

// newPartition returns the numbers below n as one group.
func newPartition(n int) *partition {
	p := &partition{place: make([]int, n), group: make([]int, n), groups: []span{{0, 0, n}}}
	for i := range n {
		p.list = append(p.list, i)
		p.place[i] = i
	}
	return p
}

// members returns the numbers in a group.
func (p *partition) members(group int) []int {
	s := p.groups[group]
	return p.list[s.begin:s.end]
}

// mark marks a number that is not marked.
func (p *partition) mark(number int) {
	s := &p.groups[p.group[number]]
	here, there := p.place[number], s.marked
	if s.marked == s.begin {
		p.touched = append(p.touched, p.group[number])
	}
	other := p.list[there]
	p.list[here], p.list[there] = other, number
	p.place[other], p.place[number] = here, there
	s.marked++
}

// split parts the marked numbers from the others of their groups; the smaller part of a group becomes a new group. Then no number is marked.
func (p *partition) split() {
	for _, group := range p.touched {
		s := p.groups[group]
		switch {
		case s.marked == s.end:
			s.marked = s.begin
		case s.marked-s.begin < s.end-s.marked:
			p.add(s.begin, s.marked)
			s.begin = s.marked
		default:
			p.add(s.marked, s.end)
			s.marked, s.end = s.begin, s.marked
		}
		p.groups[group] = s
	}
	p.touched = p.touched[:0]
}

// add makes a new group of the numbers from begin to end.
func (p *partition) add(begin, end int) {
	for _, number := range p.list[begin:end] {
		p.group[number] = len(p.groups)
	}
	p.groups = append(p.groups, span{begin, begin, end})
}
