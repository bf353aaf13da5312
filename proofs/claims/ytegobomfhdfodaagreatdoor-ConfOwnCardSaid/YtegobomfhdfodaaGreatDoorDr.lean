/- CONF: lives' LITERALS. -/
import Derived.Test.YtegobomfhdfodaaGreatDoorDq
import Derived.Test.YtegobomfhdfodaaGreatDoorDi
import Derived.Test.YtegobomfhdfodaaGreatDoorDb
namespace Go.Proofs.YtegobomfhdfodaaGreatDoor
open Go.RowKit
set_option maxRecDepth 100000
set_option linter.unusedVariables false
set_option linter.unusedSimpArgs false

namespace K
def litB : Nd := .mk 2 [] [[120], [121, 32, 122]] []
def litP : List (T × Nd) := [([97], .mk 0 [] [] [([98], litB)]), ([99], .mk 1 [53, 115] [] [])]
def lit1 : T := [97, 58, 10, 32, 32, 98, 58, 32, 91, 120, 44, 32, 34, 121, 32, 122, 34, 93, 32, 35, 32, 108, 105, 115, 116, 10, 99, 58, 32, 53, 115, 10]
def lit2 : T := [97, 58, 32, 49, 10, 98, 10]
def lit3 : T := [97, 58, 10, 32, 32, 98, 58, 32, 91, 120, 44, 32, 34, 121, 32, 122, 34, 93, 10, 99, 58, 32, 53, 115, 10]
set_option maxHeartbeats 2000000 in
theorem lit_a : parse lit1 = .ok litP := by kernel_rfl
theorem lit_b : parse lit2 = .error (15, 2) := by kernel_rfl
theorem lit_c : meas mil [53, 115] = (5000, 0) := by kernel_rfl
theorem lit_d : meas byt [52, 75, 105, 66] = (4096, 0) := by kernel_rfl
theorem lit_e : get (.mk 0 [] [] litP) [[97], [98]] = some litB := by kernel_rfl
theorem lit_f : print (.mk 0 [] [] litP) = .ok lit3 := by kernel_rfl
end K
end Go.Proofs.YtegobomfhdfodaaGreatDoor
