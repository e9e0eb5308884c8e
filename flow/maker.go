package flow

import "brazier/api"

// none is the number of a register that isn't there.
const none = -1

// A place is where a block begins: a number, since it may be gone to ahead of its block's being made.
type place int

// A spot is what is known of a place.
type spot struct {
	block  int  // the number of its block, when that is begun
	wanted bool // does anything go to it?
}

// A loop is one that a break and a continue stand in.
type loop struct{ goesOn, ends place }

// A maker makes a function's blocks, front to back. Where nothing comes, as behind a return, it makes nothing.
type maker struct {
	scopes
	loops  []loop // the innermost last
	spots  []spot // of the places, by their numbers
	blocks []api.Block
	open   bool // has the last block no end yet?
}

func newMaker() *maker {
	return &maker{blocks: []api.Block{{}}, open: true}
}

// place is a new one.
func (m *maker) place() place {
	m.spots = append(m.spots, spot{})
	return place(len(m.spots) - 1)
}

func (m *maker) last() *api.Block { return &m.blocks[len(m.blocks)-1] }

// begin begins a place's block: what was made so far goes on to it.
func (m *maker) begin(p place) {
	m.jump(p)
	if s := &m.spots[p]; s.wanted {
		s.block = len(m.blocks)
		m.blocks = append(m.blocks, api.Block{})
		m.open = true
	}
}

func (m *maker) add(x api.Ins) {
	if m.open {
		m.last().Ins = append(m.last().Ins, x)
	}
}

// end ends the block that is made, and wants the places to which it goes on.
func (m *maker) end(kind, a int, to ...place) {
	if !m.open {
		return
	}
	m.open = false
	b := m.last()
	b.Kind, b.A = kind, a
	for i, p := range to {
		m.spots[p].wanted = true
		if i == 0 {
			b.To = int(p)
		} else {
			b.Else = int(p)
		}
	}
}

func (m *maker) jump(to place) { m.end(api.BlJump, 0, to) }

func (m *maker) branch(a int, to, other place) { m.end(api.BlBranch, a, to, other) }

func (m *maker) leave(a int) { m.end(api.BlReturn, a) }

// made is the blocks, which go on to blocks in place of places now.
func (m *maker) made() []api.Block {
	for i := range m.blocks {
		b := &m.blocks[i]
		if b.Kind != api.BlReturn {
			b.To = m.spots[b.To].block
		}
		if b.Kind == api.BlBranch {
			b.Else = m.spots[b.Else].block
		}
	}
	return m.blocks
}
