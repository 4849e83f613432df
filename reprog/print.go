package reprog

import (
	"texttools/api"
	"texttools/charset"
	"texttools/num"
)

// Print returns a valid program as a string with a line for each instruction, and the empty string for any other one.
func Print(p api.ReProg) string {
	if !Valid(p) {
		return ""
	}
	var text []byte
	if p.Lines {
		text = append(text, "lines\n"...)
	}
	for i, inst := range p.Insts {
		text = appendInst(append(text, num.Format(i)...), inst)
		text = append(text, '\n')
	}
	return string(text)
}

// appendInst appends what follows the number of an instruction of a valid program.
func appendInst(text []byte, inst api.ReInst) []byte {
	k, _ := kindOf(inst.Op)
	text = append(append(text, ' '), k.word...)
	if inst.Op == api.InSet {
		return appendSet(text, inst.Set)
	}
	for _, target := range targetsOf(inst, k) {
		text = appendNumber(text, ' ', target)
	}
	return text
}

// appendSet appends the maximal sequences of successive bytes of the set.
func appendSet(text []byte, set api.Charset) []byte {
	list := charset.List(set)
	for list != "" {
		size := 1
		// The list ascends, so that no byte is followed by the one that 255 + 1 wraps to.
		for size < len(list) && list[size] == list[size-1]+1 {
			size++
		}
		text = appendNumber(text, ' ', int(list[0]))
		if size > 1 {
			text = appendNumber(text, '-', int(list[size-1]))
		}
		list = list[size:]
	}
	return text
}

func appendNumber(text []byte, before byte, number int) []byte {
	return append(append(text, before), num.Format(number)...)
}
