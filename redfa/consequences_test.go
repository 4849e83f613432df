package redfa_test

import (
	"math/rand"
	"strings"
	"testing"

	"texttools/api"
	"texttools/redfa"
	"texttools/reprog"
	"texttools/resim"
)

// A tally counts what was compared.
type tally struct{ matches, longer, none int }

// checkExact compares the automaton of a program with its simulation, from all offsets of a string.
func checkExact(t *testing.T, p api.ReProg, d api.Dfa, s string, count *tally) {
	t.Helper()
	for at := range len(s) + 1 {
		want, wantOk := resim.Longest(p, s, at)
		if to, ok := redfa.Longest(d, s, at); to != want || ok != wantOk {
			t.Fatalf("Longest(%s, %q, %d) = %d, %v; by the simulation of %s it is %d, %v", showDfa(d), s, at, to, ok, showProgram(p), want, wantOk)
		}
		switch {
		case !wantOk:
			count.none++
		case want > at:
			count.longer++
		default:
			count.matches++
		}
	}
}

func checkTally(t *testing.T, count tally, least int) {
	t.Helper()
	if min(count.matches, count.longer, count.none) < least {
		t.Errorf("too few cases were compared: %+v", count)
	}
}

// shortTexts returns all strings of up to this length of three bytes.
func shortTexts(most int) []string {
	return texts([]int{'a', 'b', '\n'}, most)
}

func TestP12_6SmallTrees(t *testing.T) {
	var count tally
	for _, e := range smallTrees(2) {
		for _, lines := range []bool{false, true} {
			p := compiled(t, e, lines)
			d := built(t, p)
			for _, s := range shortTexts(4) {
				checkExact(t, p, d, s, &count)
				checkExact(t, p, redfa.Minimize(d), s, &count)
			}
		}
	}
	checkTally(t, count, 3000)
}

func TestP12_6Random(t *testing.T) {
	random := rand.New(rand.NewSource(1261))
	var programs []api.ReProg
	for range 8000 {
		programs = append(programs, randomProgram(random, 14))
	}
	for _, e := range append(validTrees(1262, 4000, 4, 3), validTrees(1263, 500, 3, 64)...) {
		if p, err := reprog.Compile(e, random.Intn(2) == 0); err == api.OK {
			programs = append(programs, p)
		}
	}
	var count tally
	tooMany := 0
	for _, p := range programs {
		d, err := redfa.Build(p)
		if err == api.ErrLimit {
			tooMany++
			continue
		}
		if err != api.OK || !redfa.Valid(d) {
			t.Fatalf("Build(%s) = %s, %v, which is not valid", showProgram(p), showDfa(d), err)
		}
		for range 3 {
			checkExact(t, p, d, randomText(random, 9), &count)
		}
	}
	checkTally(t, count, 5000)
	if tooMany*10 > len(programs) {
		t.Errorf("%d of %d programs have too many states", tooMany, len(programs))
	}
}

// TestP12_6LongPrograms has programs whose instructions go beyond one word of a set.
func TestP12_6LongPrograms(t *testing.T) {
	random := rand.New(rand.NewSource(1264))
	var count tally
	for range 1500 {
		p := randomProgram(random, 300)
		for i := range p.Insts {
			// Otherwise most threads of a long program end soon.
			if op := p.Insts[i].Op; (op == api.InBegin || op == api.InEnd) && random.Intn(4) > 0 {
				p.Insts[i] = api.ReInst{Op: api.InSplit, X: i + 1, Y: random.Intn(len(p.Insts))}
			}
		}
		if d, err := redfa.Build(p); err == api.OK {
			checkExact(t, p, d, randomText(random, 8), &count)
		}
	}
	checkTally(t, count, 100)
}

func TestP12_7Minimal(t *testing.T) {
	random := rand.New(rand.NewSource(1271))
	var automata []api.Dfa
	for range 8000 {
		d := randomDfa(random, 9)
		automata = append(automata, d, withAllClasses(d))
	}
	for _, e := range append(validTrees(1272, 2000, 4, 3), smallTrees(2)...) {
		if p, err := reprog.Compile(e, random.Intn(2) == 0); err == api.OK {
			if d, err := redfa.Build(p); err == api.OK {
				automata = append(automata, d, twinned(random, d, random.Intn(4)))
			}
		}
	}
	fewer := 0
	for _, d := range automata {
		least := redfa.Minimize(d)
		if !redfa.Valid(d) {
			// A copy may have too many states.
			continue
		}
		if !redfa.Valid(least) || !redfa.Same(d, least) || len(least.Next) > len(d.Next) {
			t.Fatalf("Minimize(%s) = %s", showDfa(d), showDfa(least))
		}
		checkDfa(t, "Minimize of what Minimize returns", redfa.Minimize(least), least)
		if len(least.Next) < len(d.Next) {
			fewer++
		}
	}
	if fewer < 3000 {
		t.Errorf("only %d automata have fewer states", fewer)
	}
}

// withAllClasses returns the automaton with a byte in each of its classes.
func withAllClasses(d api.Dfa) api.Dfa {
	class := []byte(d.Class)
	for k := range d.Classes - 1 {
		class['0'+k] = byte(k)
	}
	d.Class = string(class)
	return d
}

// TestP12_7ClassesWithoutBytes has automata in which states are reached only by a class without bytes, from states that others take the place of.
func TestP12_7ClassesWithoutBytes(t *testing.T) {
	random := rand.New(rand.NewSource(1273))
	left := 0
	for range 12000 {
		d := randomDfa(random, 9)
		// The class before the end has no byte.
		d.Class = strings.ReplaceAll(d.Class, string([]byte{byte(d.Classes - 2)}), "\x00")
		d = twinned(random, d, random.Intn(4))
		least := redfa.Minimize(d)
		if !redfa.Valid(least) || !redfa.Same(d, least) || len(least.Next) > len(d.Next) {
			t.Fatalf("Minimize(%s) = %s", showDfa(d), showDfa(least))
		}
		checkDfa(t, "Minimize of what Minimize returns", redfa.Minimize(least), least)
		if len(remainingStates(d).Next) > len(least.Next) {
			left++
		}
	}
	if left < 200 {
		t.Errorf("only %d automata had states that nothing led to any more", left)
	}
}

// TestP12_7Equal checks that the minimal automata of programs that match the same have the same number of states, but for the state 1.
func TestP12_7Equal(t *testing.T) {
	random := rand.New(rand.NewSource(1274))
	compared := 0
	for range 4000 {
		d := withAllClasses(randomDfa(random, 7))
		x, y := redfa.Minimize(d), redfa.Minimize(twinned(random, d, 1+random.Intn(5)))
		if len(x.Next) != len(y.Next) || !redfa.Same(x, y) {
			t.Fatalf("%s and %s are minimal", showDfa(x), showDfa(y))
		}
		compared++
	}
	if compared < 4000 {
		t.Errorf("only %d automata were compared", compared)
	}
}

func TestP12_8Equivalence(t *testing.T) {
	random := rand.New(rand.NewSource(1281))
	same, other := 0, 0
	for range 400 {
		var list []api.Dfa
		for range 3 {
			d := randomDfa(random, 3)
			list = append(list, d, twinned(random, d, 2), splitClasses(random, d), redfa.Minimize(d))
		}
		for _, x := range list {
			if !redfa.Same(x, x) {
				t.Fatalf("%s is not the same as itself", showDfa(x))
			}
			for _, y := range list {
				xy := redfa.Same(x, y)
				if xy != redfa.Same(y, x) {
					t.Fatalf("Same of %s and %s depends on their order", showDfa(x), showDfa(y))
				}
				for _, z := range list {
					if xy && redfa.Same(y, z) && !redfa.Same(x, z) {
						t.Fatalf("%s, %s and %s", showDfa(x), showDfa(y), showDfa(z))
					}
				}
				if xy {
					same++
				} else {
					other++
				}
			}
		}
	}
	if min(same, other) < 10000 {
		t.Errorf("only %d pairs are the same, and %d not", same, other)
	}
}

func TestP12_8Longest(t *testing.T) {
	random := rand.New(rand.NewSource(1282))
	compared, found := 0, 0
	for range 12000 {
		x := randomDfa(random, 5)
		y := []api.Dfa{randomDfa(random, 3), twinned(random, x, 3), splitClasses(random, x), redfa.Minimize(x)}[random.Intn(4)]
		if !redfa.Same(x, y) {
			continue
		}
		s := randomText(random, 9)
		for at := range len(s) + 1 {
			one, oneOk := redfa.Longest(x, s, at)
			other, otherOk := redfa.Longest(y, s, at)
			if one != other || oneOk != otherOk {
				t.Fatalf("Longest of %s and %s for %q from %d is %d, %v and %d, %v", showDfa(x), showDfa(y), s, at, one, oneOk, other, otherOk)
			}
			compared++
			if oneOk && one > at {
				found++
			}
		}
	}
	if compared < 20000 || found < 5000 {
		t.Errorf("only %d offsets were compared, %d of them with matches", compared, found)
	}
}
