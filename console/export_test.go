package console

import "fettle/trim"

// Tool: a player's tool, so that tests see the file behind its answers, too.
func (p *Player) Tool() *trim.Tool { return p.tool }

// Left: a player whose power has gone, with what is left: so that tests needn't make
// the same image again and again.
func Left(b []byte) *Player { return &Player{left: b} }
