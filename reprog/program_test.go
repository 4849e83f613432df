package reprog_test

import (
	"fmt"
	"math/rand"
	"slices"
	"strconv"
	"strings"
	"testing"

	"texttools/api"
	"texttools/reprog"
)

func split(x, y int) api.ReInst {
	return api.ReInst{Op: api.InSplit, X: x, Y: y}
}

func jump(x int) api.ReInst {
	return api.ReInst{Op: api.InJump, X: x}
}

func take(list string) api.ReInst {
	return api.ReInst{Op: api.InSet, Set: charsetOf(list)}
}

func simple(op int) api.ReInst {
	return api.ReInst{Op: op}
}

// instsOf returns the instructions of a list like "split 1 2, set ab, match", in which the word set is followed by the bytes themselves.
func instsOf(list string) []api.ReInst {
	var insts []api.ReInst
	for _, text := range strings.Split(list, ", ") {
		words := append(strings.Fields(text), "", "")
		x, _ := strconv.Atoi(words[1])
		y, _ := strconv.Atoi(words[2])
		switch words[0] {
		case "set":
			insts = append(insts, take(words[1]))
		case "split":
			insts = append(insts, split(x, y))
		case "jump":
			insts = append(insts, jump(x))
		case "begin":
			insts = append(insts, simple(api.InBegin))
		case "end":
			insts = append(insts, simple(api.InEnd))
		case "match":
			insts = append(insts, simple(api.InMatch))
		default:
			panic("the instruction " + text + " of a test")
		}
	}
	return insts
}

// showInsts writes all fields of instructions for the messages of tests.
func showInsts(insts []api.ReInst) string {
	var texts []string
	for i, inst := range insts {
		texts = append(texts, fmt.Sprintf("%d: %d %.40q %d %d", i, inst.Op, bytesOf(inst.Set), inst.X, inst.Y))
	}
	return fmt.Sprintf("%.900s", strings.Join(texts, ", "))
}

func sameProgram(p, q api.ReProg) bool {
	return p.Lines == q.Lines && slices.Equal(p.Insts, q.Insts)
}

func copyOfProgram(p api.ReProg) api.ReProg {
	return api.ReProg{Insts: slices.Clone(p.Insts), Lines: p.Lines}
}

// moved returns the instructions with targets that are greater by more.
func moved(insts []api.ReInst, more int) []api.ReInst {
	insts = slices.Clone(insts)
	for i := range insts {
		switch insts[i].Op {
		case api.InSplit:
			insts[i].X += more
			insts[i].Y += more
		case api.InJump:
			insts[i].X += more
		}
	}
	return insts
}

// looked returns the program with zeros in the fields that are not looked at.
func looked(p api.ReProg) api.ReProg {
	p = copyOfProgram(p)
	for i, inst := range p.Insts {
		switch inst.Op {
		case api.InSet:
			p.Insts[i] = api.ReInst{Op: api.InSet, Set: inst.Set}
		case api.InSplit:
			p.Insts[i] = split(inst.X, inst.Y)
		case api.InJump:
			p.Insts[i] = jump(inst.X)
		default:
			p.Insts[i] = simple(inst.Op)
		}
	}
	return p
}

// compiled returns the program of a tree that has one.
func compiled(t *testing.T, e api.Re, lines bool) api.ReProg {
	t.Helper()
	p, err := reprog.Compile(e, lines)
	if err != api.OK {
		t.Fatalf("Compile(%s, %v) = %v", show(e), lines, err)
	}
	return p
}

// randomSet returns a set with sequences of all lengths, some of which cross or touch the words of the set.
func randomSet(random *rand.Rand) api.Charset {
	var list []byte
	for range random.Intn(5) {
		first := []int{0, 1, 62, 63, 64, 65, 127, 128, 191, 192, 254, 255, random.Intn(256)}[random.Intn(13)]
		length := []int{1, 1, 2, 3, 64, 65, 1 + random.Intn(256)}[random.Intn(7)]
		for i := first; i < min(first+length, 256); i++ {
			list = append(list, byte(i))
		}
	}
	c := charsetOf(string(list))
	switch random.Intn(12) {
	case 0:
		c = api.Charset{Bits: [4]uint64{random.Uint64(), random.Uint64(), random.Uint64(), random.Uint64()}}
	case 1:
		for i := range c.Bits {
			c.Bits[i] = ^c.Bits[i]
		}
	}
	return c
}

// randomProgram returns a valid program of up to most instructions, with any numbers in the fields that are not looked at.
func randomProgram(random *rand.Rand, most int) api.ReProg {
	count := 1 + random.Intn(most)
	p := api.ReProg{Lines: random.Intn(2) == 0}
	for i := range count {
		inst := api.ReInst{Op: 1 + random.Intn(6), Set: randomSet(random), X: randomNumber(random), Y: randomNumber(random)}
		if i == count-1 {
			inst.Op = []int{api.InSplit, api.InJump, api.InMatch}[random.Intn(3)]
		}
		if inst.Op == api.InSplit || inst.Op == api.InJump {
			inst.X = random.Intn(count)
		}
		if inst.Op == api.InSplit {
			inst.Y = random.Intn(count)
		}
		p.Insts = append(p.Insts, inst)
	}
	return p
}

func randomNumber(random *rand.Rand) int {
	return []int{0, 1, 2, -1, -2, 4095, 4096, leastInt, greatestInt, random.Intn(9)}[random.Intn(10)]
}
