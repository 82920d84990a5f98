package live

import "portage/api"

// wanted is of each block what is wanted behind its last instruction (of a block that has none: ahead of it). What is wanted ahead of a block is laid behind those that lead to it, and these are looked at again where that is more than was wanted there. The last block comes first: most ways lead from lower numbers to higher ones.
func wanted(blocks []api.Block) []set {
	behind := make([]set, len(blocks))
	leads := leading(blocks)
	work, waits := make([]int, len(blocks)), make([]bool, len(blocks))
	for k := range blocks {
		work[k], waits[k] = len(blocks)-1-k, true
	}
	for len(work) > 0 {
		k := work[0]
		work, waits[k] = work[1:], false
		ahead := behind[k]
		ahead.goBack(blocks[k].Ins)
		for _, from := range leads[k] {
			more := behind[from].join(ahead)
			if more == behind[from] {
				continue
			}
			behind[from] = more
			if !waits[from] {
				work, waits[from] = append(work, from), true
			}
		}
	}
	return behind
}

// leading are of each block the blocks that lead to it.
func leading(blocks []api.Block) [][]int {
	leads := make([][]int, len(blocks))
	for k, b := range blocks {
		for _, to := range b.Next {
			if within(to, len(blocks)) {
				leads[to] = append(leads[to], k)
			}
		}
	}
	return leads
}
