package code_test

import (
	"fmt"
	"math"
	"slices"
	"testing"

	"corebank/api"
)

// P12.2, P12.3: jumps to the next instruction, to the end and beyond.
func TestValidateJump(t *testing.T) {
	accepted(t, made(api.TyNumber, "jump 1, push number 1"), 1)
	accepted(t, made(api.TyNumber, "push number 1, jump 2"), 1)
	accepted(t, made(api.TyNumber, "jump 1, jump 2, push number 1, jump 4, jump 5"), 1)
	accepted(t, made(api.TyNumber, "load n, load n, jump 3, add"), 2)
	accepted(t, made(api.TyNumber, "load b, false 2, push number 1"), 1)
	accepted(t, made(api.TyNumber, "push number 1, load b, false 3"), 2)
	accepted(t, made(api.TyNumber, "load b, false 3, jump 3, push number 1"), 1)
	// Both ways have a value of the same type, with a jump that a compiler leaves out.
	accepted(t, made(api.TyNumber, "load b, false 4, load n, jump 6, push number 1, jump 6"), 1)
	refused(t, made(api.TyNumber, "jump 1"), api.ErrCode)
	refused(t, made(api.TyNumber, "push number 1, jump 3"), api.ErrCode)
	refused(t, made(api.TyNumber, "push number 1, load b, false 4"), api.ErrCode)
	refused(t, made(api.TyNumber, "push number 1, jump 1"), api.ErrCode)
	refused(t, made(api.TyNumber, "push number 1, jump 0"), api.ErrCode)
	refused(t, made(api.TyNumber, "push number 1, jump -1"), api.ErrCode)
}

// P12.2: each target of a jump.
func TestValidateTargets(t *testing.T) {
	// The instructions from 3 on, up to the end at 7, all have one number before them.
	always := made(api.TyNumber, "push number 1, neg, jump 3, neg, neg, neg, neg")
	maybe := made(api.TyNumber, "push number 1, load b, false 3, neg, neg, neg, neg")
	for _, a := range []int{-1, 0, 1, 2, 3, 4, 5, 6, 7, 8, 9, 128, 129, 256 + 3, 1<<32 + 3, -1<<32 + 3, math.MaxInt, math.MaxInt - 1, math.MinInt, math.MinInt + 3} {
		always.Instrs[2].A, maybe.Instrs[2].A = a, a
		if a >= 3 && a <= 7 {
			accepted(t, maybe, 2)
		} else {
			refused(t, maybe, api.ErrCode)
		}
		// Instructions that an unconditional jump leaves out have no stack before them.
		if a == 3 {
			accepted(t, always, 1)
		} else {
			refused(t, always, api.ErrCode)
		}
	}
	always.Instrs[2].A, maybe.Instrs[2].A = 3, 3
	for _, n := range []int{1, -1, math.MaxInt, math.MinInt} {
		always.Instrs[2].N, maybe.Instrs[2].N = n, n
		refused(t, always, api.ErrCode)
		refused(t, maybe, api.ErrCode)
	}
}

// P12.2: an instruction behind a jump that no jump leads to.
func TestValidateUnreached(t *testing.T) {
	for _, one := range []string{"push number 1", "load n", "neg", "add", "not", "jump 3", "jump 4", "false 3"} {
		refused(t, made(api.TyNumber, "push number 1, jump 3, "+one), api.ErrCode)
		refused(t, made(api.TyNumber, "push number 1, jump 3, "+one+", neg"), api.ErrCode)
		refused(t, made(api.TyNumber, "jump 2, "+one+", push number 1"), api.ErrCode)
	}
	// It is reached by a jump before.
	accepted(t, made(api.TyNumber, "load n, load b, false 4, jump 5, neg"), 2)
	refused(t, made(api.TyNumber, "load n, load b, false 5, jump 5, neg"), api.ErrCode)
	// Only a jump behind leads to it.
	refused(t, made(api.TyNumber, "load n, jump 3, neg, jump 2"), api.ErrCode)
}

// P12.2: an InFalse without a value, or with one that is no bool.
func TestValidateFalse(t *testing.T) {
	for kind := 0; kind <= 6; kind++ {
		refused(t, made(kind, "false 1"), api.ErrCode)
		refused(t, made(kind, "false 1, load b"), api.ErrCode)
		refused(t, made(kind, "load b, false 2, false 3, load b"), api.ErrCode)
		for _, name := range []string{"n", "a", "r", "d"} {
			refused(t, made(kind, "load "+name+", false 2, load b"), api.ErrCode)
			refused(t, made(kind, "load b, load "+name+", false 3"), api.ErrCode)
			refused(t, made(kind, "load "+name+", load "+name+", false 3"), api.ErrCode)
		}
	}
	accepted(t, made(api.TyBool, "load b, load active, false 3"), 2)
	accepted(t, made(api.TyDay, "load b, false 2, load d"), 1)
	for count := 1; count <= 15; count++ {
		c := made(api.TyDay, "load d, "+repeat("load b", count))
		for range count {
			c.Instrs = append(c.Instrs, api.Instr{Op: api.InFalse, A: len(c.Instrs) + 1})
		}
		accepted(t, c, count+1)
		refused(t, api.Code{Type: c.Type, Vars: c.Vars, Instrs: c.Instrs[:2*count]}, api.ErrCode)
	}
}

// P12.2, P12.3: several jumps to one index.
func TestValidateMeeting(t *testing.T) {
	three := "load b, false 5, load active, false 7, jump 9, %s, jump 10, %s, jump 10, %s"
	for first, one := range variables {
		for second, two := range variables {
			for third, last := range variables {
				if first*second*third == 0 {
					continue
				}
				c := made(first, fmt.Sprintf(three, "load "+one, "load "+two, "load "+last))
				if first == second && second == third {
					accepted(t, c, 1)
					continue
				}
				for c.Type = 1; c.Type <= 5; c.Type++ {
					refused(t, c, api.ErrCode)
				}
			}
		}
	}
	// Stacks of other lengths, at the end and before an instruction.
	for _, s := range []string{
		"load b, false 3, load n", "load n, load b, false 4, load n", "load n, load b, false 4, neg, load n", "load n, load n, load b, false 5, add", "load b, false 4, load n, jump 6, load n, load n", "load b, false 5, load n, load n, jump 6, load n",
		"load n, load b, false 4, load n, neg", "load n, load b, false 4, load n, add", "load n, load n, load b, false 5, add, add", "load b, false 4, load n, jump 6, load n, load n, neg", "load b, false 5, load n, load n, jump 6, load n, neg",
	} {
		refused(t, made(api.TyNumber, s), api.ErrCode)
	}
	// Only the top or only the bottom differs.
	accepted(t, made(api.TyAmount, "load b, false 5, load n, load a, jump 7, load n, load a, mul"), 2)
	for _, s := range []string{"load n, load r", "load a, load a", "load r, load a", "load a, load n", "load a, load r"} {
		refused(t, made(api.TyAmount, "load b, false 5, load n, load a, jump 7, "+s+", mul"), api.ErrCode)
		refused(t, made(api.TyAmount, "load b, false 5, "+s+", jump 7, load n, load a, mul"), api.ErrCode)
	}
	// The first and the third stack are equal, or the second and the third one.
	for _, s := range []string{"load n, jump 10, load a, jump 10, load n", "load a, jump 10, load n, jump 10, load n", "load n, jump 10, load n, jump 10, load a"} {
		refused(t, made(api.TyNumber, "load b, false 5, load active, false 7, jump 9, "+s), api.ErrCode)
		refused(t, made(api.TyAmount, "load b, false 5, load active, false 7, jump 9, "+s), api.ErrCode)
	}
}

// P12.2: two errors in different instructions, in both orders.
func TestValidateOrder(t *testing.T) {
	many, limit := repeat("load n", 17), repeat("load n", 16)
	for _, wrong := range []api.Instr{{}, {Op: 6}, {Op: api.InPush, A: api.TyDay}, {Op: api.InPush, A: api.TyNumber, N: -1}, {Op: api.InPush, A: api.TyAmount, N: api.MaxAmount + 1}, {Op: api.InPush, A: api.TyRate, N: api.MaxPpm + 1}, {Op: api.InLoad, A: -1}, {Op: api.InLoad, A: 10}, {Op: api.InLoad, N: 1}, {Op: api.InOp, A: api.OpIf}, {Op: api.InOp, A: api.OpVar}, {Op: api.InOp, A: api.OpNot}, {Op: api.InJump}, {Op: api.InJump, A: 19}, {Op: api.InFalse}, {Op: api.InFalse, A: 18}} {
		instrs := assemble(many, common())
		refused(t, is(api.TyNumber, append(slices.Clone(instrs), wrong)...), api.ErrLimit)
		refused(t, is(api.TyNumber, append([]api.Instr{wrong}, instrs...)...), api.ErrCode)
		refused(t, is(api.TyNumber, slices.Insert(slices.Clone(instrs), 16, wrong)...), api.ErrCode)
		// Both in one instruction: the one with a wrong form would leave 17 values.
		refused(t, is(api.TyNumber, append(assemble(limit, common()), wrong)...), api.ErrCode)
	}
	// The end comes last.
	refused(t, made(0, many), api.ErrLimit)
	refused(t, made(api.TyNumber, limit), api.ErrCode)
	// An instruction that is not reached would leave 17 values, or follows one that does.
	refused(t, made(api.TyNumber, limit+"jump 18, load n, "+repeat("add", 15)), api.ErrCode)
	refused(t, made(api.TyNumber, many+"jump 19, load n, "+repeat("add", 15)), api.ErrLimit)
}

// P12.2: stacks that differ count where they meet, not where the jumps are.
func TestValidateOrderOfMeeting(t *testing.T) {
	// At 21, there is one bool or none; both jumps there come first.
	differ := "load b, load b, false 21, false 21, "
	refused(t, made(api.TyNumber, differ+repeat("load n", 17)), api.ErrLimit)
	refused(t, made(api.TyNumber, differ+repeat("load n", 16)+"add"), api.ErrCode)
	refused(t, made(api.TyNumber, differ+repeat("load n", 16)+"load n, load n"), api.ErrLimit)
	refused(t, made(api.TyNumber, differ+repeat("load n", 15)+"neg, neg, load n, load n"), api.ErrCode)
	// Where they meet, a value more would be one too many.
	meeting := repeat("load n", 15) + "load b, false 19, load n, jump 20, load %s, load n, " + repeat("add", 16)
	refused(t, made(api.TyNumber, fmt.Sprintf(meeting, "n")), api.ErrLimit)
	refused(t, made(api.TyNumber, fmt.Sprintf(meeting, "a")), api.ErrCode)
	// The second operand of an if is too deep, and the third one has another type.
	refused(t, made(api.TyNumber, "load b, false 20, "+repeat("load n", 17)+"jump 21, load a"), api.ErrLimit)
	refused(t, made(api.TyNumber, "load b, false 4, load a, jump 21, "+repeat("load n", 17)), api.ErrLimit)
}
