/- SchemaClasses: what the entries lack; no program. -/
import Derived.Test.YtjffidegmonkfaaGreatDoorScPer
import Derived.Test.YtjffidegmonkfaaGreatDoorScFindE
import Derived.Lib.ItoaLen
namespace Go.Proofs.YtjffidegmonkfaaGreatDoor
open Go.RowKit
set_option linter.unusedVariables false

def claE (d : List UInt8) : List AT := [([99, 110], [[97, 110, 110]]), ([111, 98, 106, 101, 99, 116, 99, 108, 97, 115, 115], [[73, 78, 69, 84, 111, 114, 103, 80, 69, 82, 83, 79, 78]]), ([115, 110], [[115]]), ([117, 105, 100], [d]), ([117, 115, 101, 114, 112, 97, 115, 115, 119, 111, 114, 100], [[120]])]
def claA (d : List UInt8) : List AT := [([111, 98, 106, 101, 99, 116, 99, 108, 97, 115, 115], [[112, 111, 115, 105, 120], [116, 111, 112]]), ([117, 105, 100], [[97]]), ([117, 105, 100, 110, 117, 109, 98, 101, 114], [d])]
def claB (d : List UInt8) : List AT := [([111], [d]), ([111, 98, 106, 101, 99, 116, 99, 108, 97, 115, 115], [[111, 114, 103, 97, 110, 105, 122, 97, 116, 105, 111, 110]])]
theorem cla_e : ∀ n : Fin 256, checkD (perD [97, 110, 110]) (claE (Lib.itoa (n.1 : Int))) = 0 := by decide +kernel
theorem cla_a : ∀ n : Fin 256, checkD [117, 105, 100, 61, 97] (claA (Lib.itoa (n.1 : Int))) = 65 := by decide +kernel
theorem cla_b : ∀ n : Fin 256, checkD ([111, 61] ++ Lib.itoa (n.1 : Int)) (claB (Lib.itoa (n.1 : Int))) = 0 := by decide +kernel
theorem cla_len : ∀ n : Fin 256, (Lib.itoa (n.1 : Int)).length ≤ 3 := by decide +kernel
def perC : CT := ⟨[112, 101, 114, 115, 111, 110], [116, 111, 112], true, [99, 110, 32, 115, 110], [100, 101, 115, 99, 114, 105, 112, 116, 105, 111, 110, 32, 117, 115, 101, 114, 112, 97, 115, 115, 119, 111, 114, 100]⟩
theorem cla_f : findE [80, 101, 114, 115, 111, 110] = some perC := by rfl
end Go.Proofs.YtjffidegmonkfaaGreatDoor
