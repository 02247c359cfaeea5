package tests

import (
	"math"
	"testing"

	"loop.example/g01374/impl"
)

// spiralCalls returns the functions of chapter 6 that a spiral is given to.
func spiralCalls() []named {
	return []named{
		{"IsSpiral", impl.IsSpiral},
		{"AngleOf", impl.AngleOf},
		{"TurnsOf", impl.TurnsOf},
		{"StepsAbove", impl.StepsAbove},
		{"HeadOver", impl.HeadOver},
		{"AreOpposite", impl.AreOpposite},
		{"OppositeSteps", impl.OppositeSteps},
		{"ApartAround", impl.ApartAround},
		{"SideOf", impl.SideOf},
		{"StepsAtSide", impl.StepsAtSide},
		{"CountSides", impl.CountSides},
		{"LampsAndWindows", impl.LampsAndWindows},
		{"DarkSteps", impl.DarkSteps},
		{"FewestLamps", impl.FewestLamps},
		{"CountAngles", impl.CountAngles},
		{"TwinMeets", impl.TwinMeets},
		{"HeightSpiral", impl.HeightSpiral},
		{"CutSpiral", impl.CutSpiral},
		{"SpiralText", impl.SpiralText},
	}
}

// spiralNumbers returns steps, lamps, windows and heads, at the limits of each and beyond them.
func spiralNumbers() []int {
	return []int{
		math.MinInt, math.MinInt + 1, -1, 0, 1, 2, 3, 5, 8, 12, 19, 20, 21, 60, 61, 300, 301, 399, 400, 401, 20000, 20001, math.MaxInt - 1, math.MaxInt,
	}
}

func TestNothingWorksWithoutSpiral(t *testing.T) {
	sides := append(oddSides(), "n", "e", "s", "w")
	wantAllFail(t, spiralCalls(), oddSpirals(), spiralNumbers(), sides)
	wantAllFail(t, []named{{"ParseSpiral", impl.ParseSpiral}}, oddSpiralTexts())
}

func TestSpiralCallsAreTotal(t *testing.T) {
	all := append(oddSpirals(), wound(1, 3, 1), wound(2, 60, 300), wound(20, 12, 18), wound(40, 12, 9), wound(7, 13, 5), wound(400, 3, 1), wound(400, 60, 300))
	holdTotal(t, spiralCalls(), all, spiralNumbers(), append(oddSides(), "n", "e", "s", "w"))
	holdTotal(t, []named{{"LeastRound", impl.LeastRound}}, spiralNumbers())
	holdTotal(t, []named{{"ParseSpiral", impl.ParseSpiral}}, append(oddSpiralTexts(), "1@3*1", "20@12*18", "400@60*300"))
}
